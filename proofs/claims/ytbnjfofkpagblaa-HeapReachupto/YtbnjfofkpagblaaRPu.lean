/-
  What is reached: in plain words; rows of what was met.
-/
import Derived.Test.YtbnjfofkpagblaaAin
import Derived.Test.YtbnjfofkpagblaaHNamed
import Derived.Test.YtbnjfofkpagblaaLBo
namespace Go.Proofs.Ytbnjfofkpagblaa
open Go.RowKit
set_option linter.unusedVariables false
set_option linter.unusedSimpArgs false
/-- Does a value name one of the objects of these kinds? -/
def nmB (ks : List Int) (p : Int × Int) : Bool := decide (6 ≤ p.1 ∧ p.1 ≤ 9) && decide (0 ≤ p.2) && decide (ks[p.2.toNat]? = some p.1)
theorem nmB_lt {ks : List Int} {p : Int × Int} (h : nmB ks p = true) : 0 ≤ p.2 ∧ p.2.toNat < ks.length := by
  unfold nmB at h
  simp only [Bool.and_eq_true, decide_eq_true_eq] at h
  exact ⟨h.1.2, (List.getElem?_eq_some_iff.1 h.2).1⟩
/-- What was seen, and what was met, in order. -/
abbrev RS := List Bool × List Int
def mS (ks : List Int) (s : RS) (p : Int × Int) : RS := if nmB ks p = true ∧ s.1[p.2.toNat]? = some false then (s.1.set p.2.toNat true, s.2 ++ [p.2]) else s
def mL (ks : List Int) (s : RS) (vs : List (Int × Int)) : RS := vs.foldl (mS ks) s
theorem mL_step {ks : List Int} {s : RS} {vs : List (Int × Int)} {i : Nat} {p : Int × Int} (h : vs[i]? = some p) : mL ks s (vs.take (i + 1)) = mS ks (mL ks s (vs.take i)) p := by
  unfold mL
  rw [take_push h, List.foldl_append]
  rfl
structure OkS (N : Nat) (s : RS) : Prop where
  len : s.1.length = N
  rng : ∀ n ∈ s.2, 0 ≤ n ∧ n < (N : Int) ∧ s.1[n.toNat]? = some true
  nd : s.2.Nodup
theorem OkS.mS {ks : List Int} {s : RS} {p : Int × Int} (h : OkS ks.length s) : OkS ks.length (mS ks s p) := by
  unfold Ytbnjfofkpagblaa.mS
  split
  · rename_i hc
    obtain ⟨c1, c2⟩ := hc
    have hl := nmB_lt c1
    refine ⟨by simp [h.len], fun n hn => ?_, ?_⟩
    · rcases List.mem_append.1 hn with hn | hn
      · obtain ⟨r1, r2, r3⟩ := h.rng n hn
        refine ⟨r1, r2, ?_⟩
        simp only
        rw [List.getElem?_set]
        by_cases e : p.2.toNat = n.toNat
        · rw [if_pos e, if_pos (by rw [h.len]; omega)]
        · rw [if_neg e]; exact r3
      · simp at hn
        subst hn
        refine ⟨hl.1, by omega, ?_⟩
        simp only
        rw [List.getElem?_set, if_pos rfl, if_pos (by rw [h.len]; exact hl.2)]
    · rw [List.nodup_append]
      refine ⟨h.nd, by simp, fun a ha b hb e => ?_⟩
      simp at hb
      subst hb
      have := (h.rng a ha).2.2
      rw [e, c2] at this
      cases this
  · exact h
theorem OkS.mL {ks : List Int} : ∀ (vs : List (Int × Int)) (s : RS), OkS ks.length s → OkS ks.length (mL ks s vs)
  | [], s, h => h
  | p :: r, s, h => OkS.mL r (Ytbnjfofkpagblaa.mS ks s p) h.mS
theorem nodup_le : ∀ (N : Nat) (l : List Int), l.Nodup → (∀ n ∈ l, 0 ≤ n ∧ n < (N : Int)) → l.length ≤ N
  | 0, l, _, h => by
    cases l with
    | nil => simp
    | cons a r => have := h a (by simp); omega
  | N + 1, l, hd, h => by
    have h1 := nodup_le N (l.erase (N : Int)) (hd.erase _) (fun n hn => by
      have hm := (List.Nodup.mem_erase_iff hd).1 hn
      have := h n hm.2
      have := hm.1
      omega)
    have : l.length ≤ (l.erase (N : Int)).length + 1 := by
      rw [List.length_erase]
      split <;> omega
    omega
theorem OkS.le {N : Nat} {s : RS} (h : OkS N s) : s.2.length ≤ N := nodup_le N s.2 h.nd (fun n hn => ⟨(h.rng n hn).1, (h.rng n hn).2.1⟩)
/-- The list of what was met is gone through. -/
def rF (ks : List Int) (it : Nat → List (Int × Int)) : Nat → Nat → RS → RS
  | 0, _, s => s
  | g + 1, i, s => match s.2[i]? with
    | none => s
    | some n => rF ks it g (i + 1) (mL ks s (it n.toNat))
theorem rF_done {ks : List Int} {it : Nat → List (Int × Int)} {g i : Nat} {s : RS} (h : s.2.length ≤ i) : rF ks it g i s = s := by
  cases g with
  | zero => rfl
  | succ g => unfold rF; rw [List.getElem?_eq_none h]
theorem rF_step {ks : List Int} {it : Nat → List (Int × Int)} {g i : Nat} {s : RS} {n : Int} (h : s.2[i]? = some n) (hg : 0 < g) : rF ks it g i s = rF ks it (g - 1) (i + 1) (mL ks s (it n.toNat)) := by
  cases g with
  | zero => omega
  | succ g =>
    show (match s.2[i]? with
    | none => s
    | some n => rF ks it g (i + 1) (mL ks s (it n.toNat))) = _
    rw [h]
    rfl
def s0 (N : Nat) : RS := (List.replicate N false, [])
theorem OkS.zero (N : Nat) : OkS N (s0 N) := ⟨by simp [s0], fun n hn => by simp [s0] at hn, by simp [s0]⟩
def itO (os : List Ob) (n : Nat) : List (Int × Int) := match os[n]? with
  | some o => o.its
  | none => []
/-- What is reached. -/
def rch (os : List Ob) (roots : List (Int × Int)) : List Int := (rF (kinds os) (itO os) os.length 0 (mL (kinds os) (s0 os.length) roots)).2
def enBb (b : Bool) : List Value := [.bool b]
theorem zBb : ∀ p, (enBb p).length = 1 := fun _ => rfl
/-- What was seen and met, in memory. -/
structure MS (w : World) (sv ov : Value) (s : RS) : Prop where
  se : Ro w 1 sv s.1.length (flt enBb s.1)
  ou : Ro w 1 ov s.2.length (flt enN s.2)
  ap : ∀ k, sv.ownBlock = some k → ov.ownBlock ≠ some k
/-- The blocks of what was seen and met. -/
def Sso (sv ov : Value) (k : Nat) : Prop := sv.ownBlock = some k ∨ ov.ownBlock = some k
theorem MS.fr {S : Nat → Prop} {w w' : World} {sv ov : Value} {s : RS} (h : MS w sv ov s) (f : Fr S w w') (hS : ∀ k, Sso sv ov k → ¬ S k) : MS w' sv ov s :=
  ⟨h.se.fr f (fun k hk => hS k (.inl hk)), h.ou.fr f (fun k hk => hS k (.inr hk)), h.ap⟩
/-- Behind meet. -/
def MtP (w : World) (sv ov : Value) (s : RS) (e : Ending) (w' : World) : Prop := ∃ ov', e = .returned ov' ∧ MS w' sv ov' s ∧ Fr (Sso sv ov) w w' ∧ ∀ k, ov'.ownBlock = some k → ov.ownBlock = some k ∨ w.heap.size ≤ k
/-- What was seen is marked. -/
theorem MS.mark {w : World} {sv ov : Value} {s : RS} (h : MS w sv ov s) {g off n cap : Nat} (e : sv = .slice (some ⟨g, off, none⟩) n cap) {i : Nat} {b : Bool} (hi : s.1[i]? = some b) : MS (w.setCell ⟨g, off + i, none⟩ (.bool true)) sv ov (s.1.set i true, s.2) ∧ Fr (fun k => k = g) w (w.setCell ⟨g, off + i, none⟩ (.bool true)) := by
  obtain ⟨_, _, e2, _⟩ := h.se.shape
  rw [e] at e2
  injection e2 with _ e3 _
  subst e3
  obtain ⟨a1, a2⟩ := h.se.put1 zBb e (i := i) (c := 0) (x := b) (x' := true) (u := .bool true) hi (by omega) rfl
  rw [Nat.mul_one, Nat.add_zero] at a1 a2
  refine ⟨⟨by simpa using a1, h.ou.fr a2 (fun k hk q => ?_), h.ap⟩, a2⟩
  exact h.ap k (by rw [e, q]; rfl) hk
theorem appN {w : World} {ops : Array Oper} {rest : List Oper} {o : Oper} {a : Act} {Q : Exit → Act → World → Prop}
    (hg : o.guard = none) (s x : Operand) (hop : o.op = Op.call { callee := Callee.builtin Builtin.append, args := #[s, x], argTypes := #[31, 31] })
    (v : Value) (l : List Int) (hs : a.eval s = v) (hr : Ro w 1 v l.length (flt enN l)) (ad : Addr) (c : Nat) (k : Int) (hx : a.eval x = .slice (some ad) 1 c) (hc : ∀ j u, (enN k)[j]? = some u → w.cell? (ad.add j) = some u) (hN : l.length ≤ 3000000000000)
    (hK : ∀ v' w', Ro w' 1 v' (l.length + 1) (flt enN l ++ enN k) → w.grownBy w' v.ownBlock → (v'.ownBlock = v.ownBlock ∨ v'.ownBlock = some w.heap.size) → wpList Try.prog ops Q rest (a.put o.dst v') w') :
    wpList Try.prog ops Q (o :: rest) a w := by
  obtain ⟨i0, hi0, hz0, hz1, hz2⟩ := info_parts Try.info3
  exact wpList_app hg s x 31 hop 3 i0 _ 1 8 Try.underlying31 hi0 hz0 hz1 hz2 rfl (by decide) v l.length (flt enN l) hs hr ad 1 c (enN k) hx rfl hc (by intro u hu; simp only [enN, List.mem_cons, List.not_mem_nil, or_false] at hu; subst hu; rfl) (by omega) (by unfold maxLen; omega) (by omega) hK
/-- One more is met. -/
theorem MS.met {w Wa w' : World} {sv ov ov' : Value} {s : RS} {n : Int} (h : MS w sv ov s) (ha : Below w.heap.size w Wa) (hr : Ro w' 1 ov' (s.2.length + 1) (flt enN s.2 ++ enN n)) (hg : Wa.grownBy w' ov.ownBlock) (hat : ov'.ownBlock = ov.ownBlock ∨ ov'.ownBlock = some Wa.heap.size) :
    MS w' sv ov' (s.1, s.2 ++ [n]) ∧ Fr (fun k => ov.ownBlock = some k) w w' ∧ ∀ k, ov'.ownBlock = some k → ov.ownBlock = some k ∨ w.heap.size ≤ k := by
  have f : Fr (fun k => ov.ownBlock = some k) w w' := (Fr.of_below ha).trans ((Fr.refl _ Wa).grown hg (fun k e => .inr e))
  have has := ha.size
  have hn : ∀ k, ov'.ownBlock = some k → ov.ownBlock = some k ∨ w.heap.size ≤ k := fun k hk => by
    rcases hat with q | q
    · exact .inl (q ▸ hk)
    · rw [q] at hk; cases hk; exact .inr has
  refine ⟨⟨h.se.fr f (fun k hk e => h.ap k hk e), by simp only [List.length_append, flt_append, flt_one]; exact hr, fun k hk e => ?_⟩, f, hn⟩
  rcases hn k e with q | q
  · exact h.ap k hk q
  · have := h.se.lt k hk; omega
end Go.Proofs.Ytbnjfofkpagblaa
