/-
  copies.Run.
-/
import Derived.Test.YtpbdmbmafjkinaaDoorLt
namespace Go.Proofs.YtpbdmbmafjkinaaDoor
open Go.RowKit
set_option linter.unusedVariables false
set_option linter.unusedSimpArgs false
theorem OW.push' {T U : Type} {en : T → List Value} {sz : Nat} {P : World → U → T → Prop} {bl : T → Nat → Prop} {Z : Nat → Prop} {w1 Wa w2 : World} {v v' : Value} {us : List U} {xs : List T} {u : U} {x : T} {m : Nat} (hP : Stays P bl) (h : OW en sz P bl Z w1 v us xs) (hx : P w1 u x) (hn : ∀ k, bl x k → Z k ∧ k < w1.heap.size ∧ v.ownBlock ≠ some k) (hd : ∀ k, bl x k → ∀ y ∈ xs, ¬ bl y k) (ha : Below w1.heap.size w1 Wa) (hZ : Z Wa.heap.size)
    (hr : Ro w2 sz v' m (flt en xs ++ en x)) (hm : m = us.length + 1) (hg : Wa.grownBy w2 v.ownBlock) (hat : v'.ownBlock = v.ownBlock ∨ v'.ownBlock = some Wa.heap.size) :
    OW en sz P bl Z w2 v' (us ++ [u]) (xs ++ [x]) ∧ Fr (fun k => v.ownBlock = some k) w1 w2 := by
  subst hm
  have hln := h.len
  have hsa := ha.size
  have f3 : Fr (fun k => v.ownBlock = some k) w1 w2 := (Fr.of_below (S := fun k => v.ownBlock = some k) ha).trans ((Fr.refl _ Wa).grown hg (fun k e => .inr e))
  have hnew : ∀ k, v'.ownBlock = some k → v.ownBlock = some k ∨ k = Wa.heap.size := fun k hk => by
    rcases hat with q | q
    · exact .inl (q ▸ hk)
    · rw [q] at hk; cases hk; exact .inr rfl
  have key : ∀ (i : Nat) (y : T), (xs ++ [x])[i]? = some y → (i < xs.length ∧ xs[i]? = some y) ∨ (i = xs.length ∧ y = x) := fun i y hy => by
    by_cases q : i < xs.length
    · rw [List.getElem?_append_left q] at hy; exact .inl ⟨q, hy⟩
    · have hi : i = xs.length := by have := (List.getElem?_eq_some_iff.1 hy).1; simp at this; omega
      subst hi
      rw [List.getElem?_append_right (Nat.le_refl _), Nat.sub_self] at hy
      cases hy
      exact .inr ⟨rfl, rfl⟩
  refine ⟨⟨by simp [h.len], by rw [List.length_append, flt_append, flt_one]; exact hr, fun k hk => ?_, fun i g y hf hy => ?_, fun i y k hy hk => ?_, fun i j y z k hij hy hz hk => ?_⟩, f3⟩
  · rcases hnew k hk with q | q
    · exact h.rb k q
    · rw [q]; exact hZ
  · by_cases q : i < us.length
    · rw [List.getElem?_append_left q] at hf
      rw [List.getElem?_append_left (by omega)] at hy
      exact hP _ w1 w2 g y (h.el i g y hf hy) f3 (fun k hk e => (h.eb i y k hy hk).2.2 e)
    · have hi : i = us.length := by have := (List.getElem?_eq_some_iff.1 hf).1; simp at this; omega
      subst hi
      rw [List.getElem?_append_right (Nat.le_refl _), Nat.sub_self] at hf
      rw [List.getElem?_append_right (by omega), hln, Nat.sub_self] at hy
      cases hf; cases hy
      exact hP _ w1 w2 _ _ hx f3 (fun k hk e => (hn k hk).2.2 e)
  · rcases key i y hy with ⟨q1, q2⟩ | ⟨q1, rfl⟩
    · obtain ⟨z1, z2, z3⟩ := h.eb i y k q2 hk
      refine ⟨z1, Nat.lt_of_lt_of_le z2 f3.size, fun e => ?_⟩
      rcases hnew k e with r | r
      · exact z3 r
      · omega
    · obtain ⟨z1, z2, z3⟩ := hn k hk
      refine ⟨z1, Nat.lt_of_lt_of_le z2 f3.size, fun e => ?_⟩
      rcases hnew k e with r | r
      · exact z3 r
      · omega
  · rcases key i y hy with ⟨q1, q2⟩ | ⟨q1, rfl⟩ <;> rcases key j z hz with ⟨r1, r2⟩ | ⟨r1, rfl⟩
    · exact h.ap i j y z k hij q2 r2 hk
    · exact fun e => hd k e y (List.mem_of_getElem? q2) hk
    · exact fun e => hd k hk z (List.mem_of_getElem? r2) e
    · omega
section
variable {w wr w1 w2 : World} {b k : Nat} {l : List RIn} {lv : Value} {ts : List TI}
end

set_option linter.unusedVariables false
set_option linter.unusedSimpArgs false
theorem RI.frx {T U : Type} {en : T → List Value} {sz : Nat} {P : World → U → T → Prop} {bl : T → Nat → Prop} {B : Nat} {w w' : World} {us : List U} {X0 : List T} {v : Value} {i : Nat} {S : Nat → Prop} (hP : Stays P bl) (h : RI en sz P bl B us X0 i w v) (f : Fr S w w') (hv : ∀ k, v.ownBlock = some k → ¬ S k) (he : ∀ (j : Nat) (x : T) (k : Nat), j < i → X0[j]? = some x → bl x k → ¬ S k) : RI en sz P bl B us X0 i w' v :=
  ⟨h.len, h.row.fr f hv, h.rb, fun j u x hj hu hx => hP S w w' u x (h.el j u x hj hu hx) f (fun k hk => he j x k hj hx hk), fun j x k hj hx hk => ⟨(h.eb j x k hj hx hk).1, Nat.lt_of_lt_of_le (h.eb j x k hj hx hk).2.1 f.size, (h.eb j x k hj hx hk).2.2⟩, h.ap⟩
section
variable {w wr w1 : World} {b k : Nat} {fn regs : Int} {bl : List Bk} {rs0 : List BkR} {v : Value} {X0 : List TB}
end

set_option linter.unusedVariables false
set_option linter.unusedSimpArgs false
theorem oneN (l : List Int) : ∀ u ∈ flt enI l, u.oneCell' = true := fun u hu => by
  obtain ⟨x, _, h2⟩ := List.mem_flatMap.1 hu
  simp only [enI, List.mem_cons, List.not_mem_nil, or_false] at h2
  subst h2
  rfl
theorem fltTB (l : List BkR) : flt enTB (l.map (fun r => (r, ([] : List TI)))) = flt enBk l := by simp only [flt, List.flatMap_map]; rfl
theorem PB.zero {b : Nat} {w : World} {u : Bk} {t : TB} (h : PB b w u t) : PB 0 w u t :=
  ⟨h.pc, h.ow.mono (fun k _ hk => by have hk' : b < k := hk; show 0 < k; omega), h.nx, fun k hk => ⟨by have := (h.nb k hk).1; omega, (h.nb k hk).2⟩⟩
theorem OW.imp {T U : Type} {en : T → List Value} {sz : Nat} {P P' : World → U → T → Prop} {bl : T → Nat → Prop} {Z : Nat → Prop} {w : World} {v : Value} {us : List U} {xs : List T} (h : OW en sz P bl Z w v us xs) (hp : ∀ u x, P w u x → P' w u x) : OW en sz P' bl Z w v us xs :=
  ⟨h.len, h.row, h.rb, fun i u x hu hx => hp u x (h.el i u x hu hx), h.eb, h.ap⟩
/-- What Run has answered. -/
def AnsC (w : World) (fn regs : Int) (bl : List Bk) (e : Ending) (w' : World) : Prop :=
  ∃ v' Ts, e = .returned (.agg #[.int .i64 fn, .int .i64 regs, v']) ∧ Below w.heap.size w w' ∧ OW enTB 3 (PB 0) blB (fun k => w.heap.size ≤ k) w' v' bl Ts
def OkB (b : Bk) : Prop := (∀ x ∈ b.ins, OkI x) ∧ b.ins.length ≤ 1048576 ∧ b.nx.length ≤ 1048576 ∧ ∀ x ∈ b.ins, x.args.length ≤ 1048576 ∧ x.ex.length ≤ 1048576 ∧ ∀ s ∈ x.ex, s.sl.length ≤ 1048576
end Go.Proofs.YtpbdmbmafjkinaaDoor
