/-
  Once is enough; where a register is asked for (lists alone).
-/
import Derived.Test.YtpbdpejhjdoleaaIn2
namespace Go.Proofs.Ytpbdpejhjdoleaa
open Classical
set_option linter.unusedVariables false
set_option linter.unusedSimpArgs false
/-- What is so of the map while a list is gone through: the writes lie ahead; what a register was moved from was not known as anything. -/
structure Iv (f : Op → Wr) (n : Nat) : Prop where
  p1 : ∀ s, f s = wr0 ∨ ((f s).a < (n : Int) ∧ 0 ≤ (f s).a)
  p2 : ∀ s, (f s).m = true → ¬ (f s).a < (f (f s).o).a → srcF f (f s).o = (f s).o
theorem Iv.zero : Iv f0 0 := ⟨fun s => .inl rfl, fun s h => by simp [f0, wr0] at h⟩
theorem Iv.idem {f : Op → Wr} {n : Nat} (h : Iv f n) (o : Op) : srcF f (srcF f o) = srcF f o := by
  by_cases hm : (f o).m = false
  · have e : srcF f o = o := by unfold srcF; rw [if_pos hm]
    rw [e, e]
  · by_cases ha : (f o).a < (f (f o).o).a
    · have e : srcF f o = o := by unfold srcF; rw [if_neg hm, if_pos ha]
      rw [e, e]
    · have e : srcF f o = (f o).o := by unfold srcF; rw [if_neg hm, if_neg ha]
      rw [e]
      exact h.p2 o (by simpa using hm) ha
theorem Iv.keep {f : Op → Wr} {n : Nat} (h : Iv f n) {d p : Op} {x : Wr} (hx : x.a = (n : Int)) (hp : p ≠ d) (hs : srcF f p = p) : srcF (updW f d x) p = p := by
  have e : updW f d x p = f p := by unfold updW; rw [if_neg hp]
  unfold srcF
  rw [e]
  by_cases hm : (f p).m = false
  · rw [if_pos hm]
  · rw [if_neg hm]
    by_cases hz : (f p).o = d
    · have e2 : (updW f d x (f p).o).a = (n : Int) := by unfold updW; rw [if_pos hz]; exact hx
      rw [e2]
      rcases h.p1 p with q | q
      · rw [q] at hm; simp [wr0] at hm
      · rw [if_pos q.1]
    · have e2 : updW f d x (f p).o = f (f p).o := by unfold updW; rw [if_neg hz]
      rw [e2]
      unfold srcF at hs
      rw [if_neg hm] at hs
      exact hs
theorem Iv.more {f : Op → Wr} {n : Nat} (h : Iv f n) : Iv f (n + 1) :=
  ⟨fun s => by rcases h.p1 s with q | q; exact .inl q; exact .inr ⟨by omega, q.2⟩, h.p2⟩
theorem Iv.upd {f : Op → Wr} {n : Nat} (h : Iv f n) {d : Op} {m : Bool} {q : Op} (hq : m = true → q ≠ d ∧ srcF f q = q) : Iv (updW f d ⟨(n : Int), m, q⟩) (n + 1) := by
  refine ⟨fun s => ?_, fun s hm ha => ?_⟩
  · unfold updW
    split
    · exact .inr ⟨by show (n : Int) < _; omega, by show (0 : Int) ≤ n; omega⟩
    · exact h.more.p1 s
  · by_cases hs : s = d
    · subst hs
      have e : updW f s ⟨(n : Int), m, q⟩ s = ⟨(n : Int), m, q⟩ := by unfold updW; rw [if_pos rfl]
      rw [e] at hm ⊢
      obtain ⟨h1, h2⟩ := hq hm
      exact h.keep rfl h1 h2
    · have e : updW f d ⟨(n : Int), m, q⟩ s = f s := by unfold updW; rw [if_neg hs]
      rw [e] at hm ha ⊢
      by_cases hp : (f s).o = d
      · exfalso
        have e2 : (updW f d ⟨(n : Int), m, q⟩ (f s).o).a = (n : Int) := by unfold updW; rw [if_pos hp]
        rw [e2] at ha
        rcases h.p1 s with z | z
        · rw [z] at hm; simp [wr0] at hm
        · exact ha z.1
      · have e2 : updW f d ⟨(n : Int), m, q⟩ (f s).o = f (f s).o := by unfold updW; rw [if_neg hp]
        rw [e2] at ha
        exact h.keep rfl hp (h.p2 s hm ha)
theorem Iv.inF2 {f : Op → Wr} {n : Nat} (h : Iv f n) (x : RIn) : inF f (inF f x) = inF f x := by
  unfold inF
  simp only [List.map_map]
  have e1 : (srcF f ∘ srcF f) = srcF f := funext h.idem
  have e2 : (shF f ∘ shF f) = shF f := by
    funext s
    simp only [Function.comp, shF, List.map_map, e1]
  rw [e1, e2]
theorem mvd_mem {x : RIn} {o : Op} (h : mvd x = some o) : o ∈ x.args ∧ x.dst ≠ -1 ∧ x.op = 1 ∧ x.args = [o] := by
  unfold mvd at h
  split at h
  · rename_i q
    obtain ⟨q1, q2, q3⟩ := q
    refine ⟨List.mem_of_getElem? h, q3, q1, ?_⟩
    cases hx : x.args with
    | nil => rw [hx] at q2; simp at q2
    | cons a l =>
      rw [hx] at q2 h
      cases l with
      | nil => simp at h; rw [h]
      | cons _ _ => simp at q2
  · cases h
theorem Iv.mvd {f : Op → Wr} {n : Nat} (h : Iv f n) {x : RIn} {o : Op} (e : mvd (inF f x) = some o) : srcF f o = o := by
  have := (mvd_mem e).1
  obtain ⟨p, _, rfl⟩ := List.mem_map.1 this
  exact h.idem p
/-- One step keeps it. -/
theorem Iv.stp {s : (Op → Wr) × List RIn} (h : Iv s.1 s.2.length) (x : RIn) : Iv (stp s x).1 (stp s x).2.length := by
  by_cases hs : Ytpbdpejhjdoleaa.mvd (inF s.1 x) = some (rgO x.dst)
  · rw [stp_same hs]; exact h
  · by_cases hd : x.dst = -1
    · rw [stp_none hs hd]
      simp only [List.length_append, List.length_singleton]
      exact h.more
    · rw [stp_some hs hd]
      simp only [List.length_append, List.length_singleton]
      refine h.upd (fun hm => ?_)
      cases e : Ytpbdpejhjdoleaa.mvd (inF s.1 x) with
      | none => rw [e] at hm; cases hm
      | some o => exact ⟨fun q => hs (by rw [e]; simp only [mvO] at q; rw [q]), h.mvd e⟩
/-- A list that is turned already: each of its instructions is as it stands. -/
theorem trn_iv : ∀ (k : Nat) (l : List RIn), k ≤ l.length → Iv (trn (l.take k)).1 (trn (l.take k)).2.length
  | 0, l, _ => by simpa [trn] using Iv.zero
  | k + 1, l, h => by
    obtain ⟨x, hx⟩ : ∃ x, l[k]? = some x := ⟨_, List.getElem?_eq_getElem (by omega)⟩
    rw [trn_at l hx]
    exact (trn_iv k l (by omega)).stp x
/-- What was turned is turned into itself, and each of its instructions stands as it is where it stands. -/
structure Fx (out : List RIn) (f : Op → Wr) : Prop where
  t : trn out = (f, out)
  e : ∀ (j : Nat) (y : RIn), out[j]? = some y → ∃ g, trn (out.take j) = (g, out.take j) ∧ Iv g j ∧ inF g y = y ∧ mvd y ≠ some (rgO y.dst)
theorem Fx.push {out : List RIn} {f : Op → Wr} (h : Fx out f) (hi : Iv f out.length) {x : RIn} (hs : mvd (inF f x) ≠ some (rgO x.dst)) : Fx (out ++ [inF f x]) (stp (f, out) x).1 := by
  have h2 : stp (f, out) (inF f x) = stp (f, out) x := by
    have e : inF f (inF f x) = inF f x := hi.inF2 x
    unfold Ytpbdpejhjdoleaa.stp
    dsimp only
    rw [e]
    rfl
  have hl : (stp (f, out) x).2 = out ++ [inF f x] := stp_list (s := (f, out)) hs
  refine ⟨by rw [trn_push, h.t, h2, ← hl], fun j y hy => ?_⟩
  by_cases q : j < out.length
  · rw [List.getElem?_append_left q] at hy
    obtain ⟨g, a1, a2, a3, a4⟩ := h.e j y hy
    rw [List.take_append_of_le_length (Nat.le_of_lt q)]
    exact ⟨g, a1, a2, a3, a4⟩
  · have hj : j = out.length := by have := (List.getElem?_eq_some_iff.1 hy).1; simp at this; omega
    subst hj
    rw [List.getElem?_append_right (Nat.le_refl _), Nat.sub_self] at hy
    cases hy
    rw [List.take_append_of_le_length (Nat.le_refl _), List.take_length]
    exact ⟨f, h.t, hi, hi.inF2 x, hs⟩
theorem trn_fx : ∀ (k : Nat) (l : List RIn), k ≤ l.length → Fx (trn (l.take k)).2 (trn (l.take k)).1
  | 0, l, _ => ⟨by simp [trn], fun j y hy => by simp [trn] at hy⟩
  | k + 1, l, h => by
    obtain ⟨x, hx⟩ : ∃ x, l[k]? = some x := ⟨_, List.getElem?_eq_getElem (by omega)⟩
    have ih := trn_fx k l (by omega)
    have hi := trn_iv k l (by omega)
    rw [trn_at l hx]
    by_cases hs : mvd (inF (trn (l.take k)).1 x) = some (rgO x.dst)
    · rw [stp_same hs]; exact ih
    · rw [stp_list hs]
      exact ih.push hi hs
theorem fx_all (l : List RIn) : Fx (trn l).2 (trn l).1 := by
  have := trn_fx l.length l (Nat.le_refl _)
  rwa [List.take_length] at this
theorem trn_again (l : List RIn) : (trn (trn l).2).2 = (trn l).2 := by rw [(fx_all l).t]
theorem bkT_again (b : Bk) : bkT (bkT b) = bkT b := by unfold bkT; dsimp only; rw [trn_again]
theorem map_again (bl : List Bk) : (bl.map bkT).map bkT = bl.map bkT := by
  rw [List.map_map]
  congr 1
  funext b
  exact bkT_again b
/-- Does an instruction ask for a register? -/
def askP (x : RIn) (r : Int) : Prop := rgO r ∈ x.args ∨ ∃ s ∈ x.ex, rgO r ∈ s.sl
theorem map_fix {A : Type} {g : A → A} : ∀ {l : List A}, l.map g = l → ∀ a ∈ l, g a = a
  | [], _, a, h => by cases h
  | b :: l, e, a, h => by
    simp only [List.map_cons, List.cons.injEq] at e
    rcases List.mem_cons.1 h with rfl | h
    · exact e.1
    · exact map_fix e.2 a h
theorem fix_src {g : Op → Wr} {y : RIn} (h : inF g y = y) {r : Int} (ha : askP y r) : srcF g (rgO r) = rgO r := by
  have h1 : y.args.map (srcF g) = y.args := congrArg RIn.args h
  have h2 : y.ex.map (shF g) = y.ex := congrArg RIn.ex h
  rcases ha with q | ⟨s, hs, q⟩
  · exact map_fix h1 _ q
  · have h3 := congrArg Sh.sl (map_fix h2 s hs)
    exact map_fix h3 _ q
/-- Behind a move nobody asks for the register it went to, until that, or where it came from, is written. -/
theorem source_pure (l : List RIn) {k : Nat} {x : RIn} {o : Op} (hx : (trn l).2[k]? = some x) (hm : mvd x = some o) :
    o ≠ rgO x.dst ∧ ∀ (d : Nat) (y : RIn), (trn l).2[k + 1 + d]? = some y → (∀ (i : Nat) (z : RIn), i < d → (trn l).2[k + 1 + i]? = some z → z.dst ≠ x.dst ∧ ¬ (z.dst ≠ -1 ∧ o = rgO z.dst)) → ¬ askP y x.dst := by
  have F := fx_all l
  obtain ⟨out, ho⟩ : ∃ z, z = (trn l).2 := ⟨_, rfl⟩
  rw [← ho] at F hx ⊢
  obtain ⟨g, t1, t2, t3, t4⟩ := F.e k x hx
  have hne : o ≠ rgO x.dst := fun e => t4 (by rw [hm, e])
  have hd := (mvd_mem hm).2.1
  refine ⟨hne, ?_⟩
  have key : ∀ (d : Nat), k + 1 + d ≤ out.length → (∀ (i : Nat) (z : RIn), i < d → out[k + 1 + i]? = some z → z.dst ≠ x.dst ∧ ¬ (z.dst ≠ -1 ∧ o = rgO z.dst)) →
      ∃ g', trn (out.take (k + 1 + d)) = (g', out.take (k + 1 + d)) ∧ g' (rgO x.dst) = ⟨(k : Int), true, o⟩ ∧ g' o = g o := by
    intro d
    induction d with
    | zero =>
      intro hl _
      have e := trn_at out hx
      rw [t1] at e
      have hs : mvd (inF g x) ≠ some (rgO x.dst) := by rw [t3]; exact t4
      have e2 := stp_some (s := (g, out.take k)) hs hd
      dsimp only at e2
      rw [t3, hm] at e2
      rw [e2] at e
      have hk := (List.getElem?_eq_some_iff.1 hx).1
      refine ⟨updW g (rgO x.dst) ⟨((out.take k).length : Int), (some o).isSome, mvO (some o)⟩, ?_, ?_, ?_⟩
      · rw [Nat.add_zero, e, take_push hx]
      · unfold updW
        rw [if_pos rfl, List.length_take, Nat.min_eq_left (Nat.le_of_lt hk)]
        rfl
      · unfold updW
        rw [if_neg hne]
    | succ d ih =>
      intro hl hw
      obtain ⟨g', a1, a2, a3⟩ := ih (by omega) (fun i z hi hz => hw i z (by omega) hz)
      obtain ⟨z, hz⟩ : ∃ z, out[k + 1 + d]? = some z := ⟨_, List.getElem?_eq_getElem (by omega)⟩
      obtain ⟨w1, w2⟩ := hw d z (by omega) hz
      obtain ⟨g2, b1, b2, b3, b4⟩ := F.e (k + 1 + d) z hz
      rw [a1] at b1
      cases b1
      have e := trn_at out hz
      rw [a1] at e
      have hs : mvd (inF g' z) ≠ some (rgO z.dst) := by rw [b3]; exact b4
      by_cases hzd : z.dst = -1
      · rw [stp_none (s := (g', _)) hs hzd] at e
        dsimp only at e
        rw [b3] at e
        refine ⟨g', ?_, a2, a3⟩
        rw [show k + 1 + (d + 1) = k + 1 + d + 1 by omega, e, take_push hz]
      · rw [stp_some (s := (g', _)) hs hzd] at e
        dsimp only at e
        rw [b3] at e
        refine ⟨updW g' (rgO z.dst) ⟨((out.take (k + 1 + d)).length : Int), (mvd z).isSome, mvO (mvd z)⟩, ?_, ?_, ?_⟩
        · rw [show k + 1 + (d + 1) = k + 1 + d + 1 by omega, e, take_push hz]
        · unfold updW
          rw [if_neg (fun q => w1 (congrArg Op.n q).symm)]
          exact a2
        · unfold updW
          rw [if_neg (fun q => w2 ⟨hzd, q⟩)]
          exact a3
  intro d y hy hw ha
  have hl := (List.getElem?_eq_some_iff.1 hy).1
  obtain ⟨g', a1, a2, a3⟩ := key d (by omega) hw
  obtain ⟨g2, b1, b2, b3, b4⟩ := F.e _ y hy
  rw [a1] at b1
  cases b1
  have hf := fix_src b3 ha
  have hsr : ¬ (g' (rgO x.dst)).a < (g' (g' (rgO x.dst)).o).a := by
    rw [a2]
    show ¬ (k : Int) < (g' o).a
    rw [a3]
    rcases t2.p1 o with q | q
    · rw [q]
      show ¬ (k : Int) < 0
      omega
    · omega
  unfold srcF at hf
  rw [if_neg (by rw [a2]; simp), if_neg hsr, a2] at hf
  exact hne hf
end Go.Proofs.Ytpbdpejhjdoleaa
