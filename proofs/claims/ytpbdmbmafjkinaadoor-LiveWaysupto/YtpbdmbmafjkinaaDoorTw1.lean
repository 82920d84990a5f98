/-
  What was taken out of a block, found from its end.
-/
import Derived.Test.YtpbdmbmafjkinaaDoorLv0
namespace Go.Proofs.YtpbdmbmafjkinaaDoor
set_option linter.unusedVariables false
set_option linter.unusedSimpArgs false
theorem idle_anti {S T : Rset} (h : Sub S T) {x : RIn} (q : idle T x = true) : idle S x = true := by
  simp only [idle, Bool.and_eq_true, Bool.not_eq_true'] at q ⊢
  refine ⟨q.1, ?_⟩
  cases e : inS S x.dst with
  | false => rfl
  | true => have := inS_mono h e; rw [q.2] at this; cases this
theorem backS_idle {S : Rset} {x : RIn} (q : idle S x = true) : backS S x = S := funext (fun r => by unfold backS; rw [if_pos q])
/-- What is wanted is asked by what stays alone. -/
theorem backL_kep {S T : Rset} (h : Sub S T) : ∀ l, backL S (kepL T l) = backL S l
  | [] => rfl
  | x :: l => by
    by_cases q : idle (backL T l) x = true
    · rw [kepL, if_pos q, backL_kep h l, backL_cons, backS_idle (idle_anti (backL_mono h l) q)]
    · rw [kepL, if_neg q, backL_cons, backL_cons, backL_kep h l]
theorem kepL_kep (S : Rset) : ∀ l, kepL S (kepL S l) = kepL S l
  | [] => rfl
  | x :: l => by
    by_cases q : idle (backL S l) x = true
    · rw [kepL, if_pos q, kepL_kep S l]
    · rw [kepL, if_neg q, kepL, backL_kep (Sub.refl S) l, if_neg q, kepL_kep S l]
theorem kepC_inv {bl : List Bk} {k : Nat} {u' : Bk} (h : (kepC bl)[k]? = some u') : ∃ u, bl[k]? = some u ∧ u' = kepB bl k u := by
  unfold kepC at h
  rw [List.getElem?_mapIdx] at h
  cases hb : bl[k]? with
  | none => rw [hb] at h; cases h
  | some u => rw [hb] at h; exact ⟨u, rfl, (Option.some.inj h).symm⟩
theorem kepC_fwd {bl : List Bk} {k : Nat} {u : Bk} (h : bl[k]? = some u) : (kepC bl)[k]? = some (kepB bl k u) := by
  unfold kepC
  rw [List.getElem?_mapIdx, h]
  rfl
theorem wS_kep (bl : List Bk) (b : Nat) : wS (kepC bl) b = wS bl b := by
  have h1 : Closed (kepC bl) (wS bl) := fun b n u' t' hu ht hn => by
    obtain ⟨u, hu2, rfl⟩ := kepC_inv hu
    obtain ⟨t, ht2, rfl⟩ := kepC_inv ht
    have q := wS_closed bl b n u t hu2 ht2 hn
    rw [← backL_kep (Sub.refl (wS bl n)) t.ins] at q
    exact q
  have h2 : ∀ b, Sub (wS (kepC bl) b) (wS bl b) := fun b => wS_least h1 b
  refine wS_eq h2 (fun b n u t hu ht hn => ?_) b
  have q := wS_closed (kepC bl) b n _ _ (kepC_fwd hu) (kepC_fwd ht) hn
  have e : backL (wS (kepC bl) n) (kepB bl n t).ins = backL (wS (kepC bl) n) t.ins := backL_kep (h2 n) t.ins
  rw [e] at q
  exact q
theorem kepC_kep (bl : List Bk) : kepC (kepC bl) = kepC bl := by
  refine List.ext_getElem? (fun k => ?_)
  cases hb : bl[k]? with
  | none =>
    have e : (kepC bl)[k]? = none := by unfold kepC; rw [List.getElem?_mapIdx, hb]; rfl
    have e2 : (kepC (kepC bl))[k]? = none := by
      cases q : (kepC (kepC bl))[k]? with
      | none => rfl
      | some u => obtain ⟨u1, q1, _⟩ := kepC_inv q; rw [e] at q1; cases q1
    rw [e, e2]
  | some u =>
    rw [kepC_fwd (kepC_fwd hb), kepC_fwd hb]
    unfold kepB
    rw [wS_kep, kepL_kep]

set_option linter.unusedVariables false
set_option linter.unusedSimpArgs false
/-- Is the instruction at i taken out? -/
def gone (S : Rset) (l : List RIn) (i : Nat) : Bool := match l[i]? with
  | some x => idle (backL S (l.drop (i + 1))) x
  | none => false
theorem gone_at (S : Rset) {l : List RIn} {i : Nat} {x : RIn} (h : l[i]? = some x) : gone S l i = idle (backL S (l.drop (i + 1))) x := by unfold gone; rw [h]
theorem backL_append (S : Rset) (l m : List RIn) : backL S (l ++ m) = backL (backL S m) l := by unfold backL; rw [List.foldr_append]
theorem kepL_append (S : Rset) : ∀ l m, kepL S (l ++ m) = kepL (backL S m) l ++ kepL S m
  | [], m => rfl
  | x :: l, m => by
    rw [List.cons_append, kepL, kepL, backL_append, kepL_append S l m]
    split
    · rfl
    · rfl
/-- How many stay ahead of a place. -/
def cntK (S : Rset) (l : List RIn) (i : Nat) : Nat := (kepL (backL S (l.drop i)) (l.take i)).length
theorem cntK_zero (S : Rset) (l : List RIn) : cntK S l 0 = 0 := by simp [cntK, kepL]
theorem cntK_all (S : Rset) (l : List RIn) : cntK S l l.length = (kepL S l).length := by
  unfold cntK
  rw [List.drop_length, List.take_length]
  rfl
theorem kep_split (S : Rset) (l : List RIn) (i : Nat) : kepL S l = kepL (backL S (l.drop i)) (l.take i) ++ kepL S (l.drop i) := by
  have h := kepL_append S (l.take i) (l.drop i)
  rw [List.take_append_drop] at h
  exact h
theorem kep_drop (S : Rset) (l : List RIn) (i : Nat) : (kepL S l).drop (cntK S l i) = kepL S (l.drop i) := by
  have h := kep_split S l i
  rw [h]
  unfold cntK
  simp
theorem kep_take (S : Rset) (l : List RIn) (i : Nat) : (kepL S l).take (cntK S l i) = kepL (backL S (l.drop i)) (l.take i) := by
  have h := kep_split S l i
  rw [h]
  unfold cntK
  simp
theorem cntK_le (S : Rset) (l : List RIn) (i : Nat) : cntK S l i ≤ (kepL S l).length := by
  have h := congrArg List.length (kep_split S l i)
  rw [List.length_append] at h
  unfold cntK
  omega
theorem take_snoc {A : Type} {l : List A} {i : Nat} {x : A} (h : l[i]? = some x) : l.take (i + 1) = l.take i ++ [x] := by
  rw [List.take_add_one, h]; rfl
theorem kepL_one (S : Rset) (x : RIn) : kepL S [x] = if idle S x = true then [] else [x] := by
  unfold kepL
  rfl
theorem cntK_gone {S : Rset} {l : List RIn} {i : Nat} {x : RIn} (h : l[i]? = some x) (hg : gone S l i = true) : cntK S l (i + 1) = cntK S l i := by
  rw [gone_at S h] at hg
  unfold cntK
  rw [take_snoc h, kepL_append, kepL_one, if_pos hg, List.append_nil]
  have e : backL (backL S (l.drop (i + 1))) [x] = backL S (l.drop i) := by
    rw [backL_drop S l h]
    rfl
  rw [e]
theorem cntK_stay {S : Rset} {l : List RIn} {i : Nat} {x : RIn} (h : l[i]? = some x) (hg : gone S l i = false) : cntK S l (i + 1) = cntK S l i + 1 ∧ (kepL S l)[cntK S l i]? = some x := by
  rw [gone_at S h] at hg
  have hn : ¬ idle (backL S (l.drop (i + 1))) x = true := by rw [hg]; exact Bool.false_ne_true
  have e : backL (backL S (l.drop (i + 1))) [x] = backL S (l.drop i) := by
    rw [backL_drop S l h]
    rfl
  refine ⟨?_, ?_⟩
  · unfold cntK
    rw [take_snoc h, kepL_append, kepL_one, if_neg hn, e, List.length_append]
    rfl
  · have q := kep_drop S l i
    rw [kepL_drop S l h, if_neg hn] at q
    have q2 := congrArg (fun m => m[0]?) q
    simp only [List.getElem?_drop, Nat.add_zero, List.getElem?_cons_zero] at q2
    exact q2
/-- The last that stays is not idle by what is wanted behind. -/
theorem kepL_last (T : Rset) : ∀ (n : Nat) (l : List RIn), l.length = n → ∀ y, (kepL T l).getLast? = some y → idle T y = false
  | 0, l, hl, y, h => by
    obtain rfl : l = [] := List.length_eq_zero_iff.1 hl
    simp [kepL] at h
  | n + 1, l, hl, y, h => by
    have hne : l ≠ [] := by intro e; subst e; simp at hl
    obtain ⟨m, z, rfl⟩ : ∃ m z, l = m ++ [z] := ⟨l.dropLast, l.getLast hne, (List.dropLast_concat_getLast hne).symm⟩
    have hm : m.length = n := by simp at hl; omega
    rw [kepL_append, kepL_one] at h
    by_cases q : idle T z = true
    · rw [if_pos q, List.append_nil] at h
      have e : backL T [z] = T := by show backS T z = T; exact backS_idle q
      rw [e] at h
      exact kepL_last T n m hm y h
    · rw [if_neg q, List.getLast?_append] at h
      simp at h
      subst h
      cases e : idle T z with
      | false => rfl
      | true => exact absurd e q
theorem idle_ext (T : Rset) {x y : RIn} (h : x = y) : idle T x = idle T y := by rw [h]
theorem gone_last {S : Rset} {l : List RIn} {i : Nat} {x y : RIn} (h : l[i]? = some x) (hg : gone S l i = true) (hp : 0 < cntK S l i) (hy : (kepL S l)[cntK S l i - 1]? = some y) : x ≠ y := by
  intro e
  subst e
  have hs := gone_at S h
  rw [hg] at hs
  have e2 : backL S (l.drop i) = backL S (l.drop (i + 1)) := by
    rw [backL_drop S l h]
    exact backS_idle hs.symm
  have ht := kep_take S l i
  have hl : (kepL (backL S (l.drop i)) (l.take i)).getLast? = some x := by
    rw [← ht, List.getLast?_eq_getElem?, List.length_take]
    have := cntK_le S l i
    rw [Nat.min_eq_left this, List.getElem?_take, if_pos (by omega)]
    exact hy
  have q := kepL_last _ _ _ rfl x hl
  rw [e2, ← hs] at q
  cases q
theorem gone_quiet {S : Rset} {l : List RIn} {i : Nat} {x : RIn} (h : l[i]? = some x) (hg : gone S l i = true) : quiet x = true := by
  rw [gone_at S h] at hg
  simp only [idle, Bool.and_eq_true] at hg
  exact hg.1
/-- Behind what stays, the same is wanted. -/
theorem wants_stay {bl : List Bk} {b : Nat} {u : Bk} (hu : bl[b]? = some u) {i : Nat} {x : RIn} (h : u.ins[i]? = some x) (hg : gone (wS bl b) u.ins i = false) :
    backL (wS (kepC bl) b) ((kepL (wS bl b) u.ins).drop (cntK (wS bl b) u.ins i + 1)) = backL (wS bl b) (u.ins.drop (i + 1)) := by
  rw [wS_kep, ← (cntK_stay h hg).1, kep_drop, backL_kep (Sub.refl _)]
end Go.Proofs.YtpbdmbmafjkinaaDoor
