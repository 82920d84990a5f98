/-
  One instruction more in the new list.
-/
import Derived.Test.YtpbdpejhjdoleaaLt
namespace Go.Proofs.Ytpbdpejhjdoleaa
open Go.RowKit
set_option linter.unusedVariables false
set_option linter.unusedSimpArgs false
theorem OW.push' {T U : Type} {en : T → List Value} {sz : Nat} {P : World → U → T → Prop} {bl : T → Nat → Prop} {Z : Nat → Prop} {w1 Wa w2 : World} {v v' : Value} {us : List U} {xs : List T} {u : U} {x : T} {m : Nat} (hP : Stays P bl) (h : OW en sz P bl Z w1 v us xs) (hx : P w1 u x) (hn : ∀ k, bl x k → Z k ∧ k < w1.heap.size ∧ v.ownBlock ≠ some k) (hd : ∀ k, bl x k → ∀ y ∈ xs, ¬ bl y k) (ha : Below w1.heap.size w1 Wa) (hZ : Z Wa.heap.size)
    (hr : Ro w2 sz v' m (flt en xs ++ en x)) (hm : m = us.length + 1) (hg : Wa.grownBy w2 v.ownBlock) (hat : v'.ownBlock = v.ownBlock ∨ v'.ownBlock = some Wa.heap.size) :
    OW en sz P bl Z w2 v' (us ++ [u]) (xs ++ [x]) ∧ Fr (fun k => v.ownBlock = some k) w1 w2 := by
  subst hm
  have hln := h.len
  have hsa := ha.size
  have f3 : Fr (fun k => v.ownBlock = some k) w1 w2 := (Fr.of_below (S := fun k => v.ownBlock = some k) ha).trans ((Fr.refl _ Wa).grown hg (fun k e => .inr e))
  have hnew : ∀ k, v'.ownBlock = some k → v.ownBlock = some k ∨ k = Wa.heap.size := fun k hk => by
    rcases hat with q | q
    · exact .inl (q ▸ hk)
    · rw [q] at hk; cases hk; exact .inr rfl
  have key : ∀ (i : Nat) (y : T), (xs ++ [x])[i]? = some y → (i < xs.length ∧ xs[i]? = some y) ∨ (i = xs.length ∧ y = x) := fun i y hy => by
    by_cases q : i < xs.length
    · rw [List.getElem?_append_left q] at hy; exact .inl ⟨q, hy⟩
    · have hi : i = xs.length := by have := (List.getElem?_eq_some_iff.1 hy).1; simp at this; omega
      subst hi
      rw [List.getElem?_append_right (Nat.le_refl _), Nat.sub_self] at hy
      cases hy
      exact .inr ⟨rfl, rfl⟩
  refine ⟨⟨by simp [h.len], by rw [List.length_append, flt_append, flt_one]; exact hr, fun k hk => ?_, fun i g y hf hy => ?_, fun i y k hy hk => ?_, fun i j y z k hij hy hz hk => ?_⟩, f3⟩
  · rcases hnew k hk with q | q
    · exact h.rb k q
    · rw [q]; exact hZ
  · by_cases q : i < us.length
    · rw [List.getElem?_append_left q] at hf
      rw [List.getElem?_append_left (by omega)] at hy
      exact hP _ w1 w2 g y (h.el i g y hf hy) f3 (fun k hk e => (h.eb i y k hy hk).2.2 e)
    · have hi : i = us.length := by have := (List.getElem?_eq_some_iff.1 hf).1; simp at this; omega
      subst hi
      rw [List.getElem?_append_right (Nat.le_refl _), Nat.sub_self] at hf
      rw [List.getElem?_append_right (by omega), hln, Nat.sub_self] at hy
      cases hf; cases hy
      exact hP _ w1 w2 _ _ hx f3 (fun k hk e => (hn k hk).2.2 e)
  · rcases key i y hy with ⟨q1, q2⟩ | ⟨q1, rfl⟩
    · obtain ⟨z1, z2, z3⟩ := h.eb i y k q2 hk
      refine ⟨z1, Nat.lt_of_lt_of_le z2 f3.size, fun e => ?_⟩
      rcases hnew k e with r | r
      · exact z3 r
      · omega
    · obtain ⟨z1, z2, z3⟩ := hn k hk
      refine ⟨z1, Nat.lt_of_lt_of_le z2 f3.size, fun e => ?_⟩
      rcases hnew k e with r | r
      · exact z3 r
      · omega
  · rcases key i y hy with ⟨q1, q2⟩ | ⟨q1, rfl⟩ <;> rcases key j z hz with ⟨r1, r2⟩ | ⟨r1, rfl⟩
    · exact h.ap i j y z k hij q2 r2 hk
    · exact fun e => hd k e y (List.mem_of_getElem? q2) hk
    · exact fun e => hd k hk z (List.mem_of_getElem? r2) e
    · omega
section
variable {w wr w1 w2 : World} {b k : Nat} {l : List RIn} {lv : Value} {ts : List TI}
theorem stp_same {s : (Op → Wr) × List RIn} {x : RIn} (h : mvd (inF s.1 x) = some (rgO x.dst)) : stp s x = s := by
  unfold stp
  dsimp only
  rw [if_pos h]
theorem stp_none {s : (Op → Wr) × List RIn} {x : RIn} (h : mvd (inF s.1 x) ≠ some (rgO x.dst)) (hd : x.dst = -1) : stp s x = (s.1, s.2 ++ [inF s.1 x]) := by
  unfold stp
  dsimp only
  rw [if_neg h, if_pos hd]
theorem stp_some {s : (Op → Wr) × List RIn} {x : RIn} (h : mvd (inF s.1 x) ≠ some (rgO x.dst)) (hd : x.dst ≠ -1) : stp s x = (updW s.1 (rgO x.dst) ⟨(s.2.length : Int), (mvd (inF s.1 x)).isSome, mvO (mvd (inF s.1 x))⟩, s.2 ++ [inF s.1 x]) := by
  unfold stp
  dsimp only
  rw [if_neg h, if_neg hd]
theorem stp_list {s : (Op → Wr) × List RIn} {x : RIn} (h : mvd (inF s.1 x) ≠ some (rgO x.dst)) : (stp s x).2 = s.2 ++ [inF s.1 x] := by
  unfold stp
  dsimp only
  rw [if_neg h]
theorem TS.skip (h : TS w b l k lv ts wr) {x : RIn} (hx : l[k]? = some x) (hs : mvd (inF (trn (l.take k)).1 x) = some (rgO x.dst)) (hb : Below wr.heap.size wr w1) : TS w b l (k + 1) lv ts w1 := by
  have h1 := h.on hb
  have e := trn_at l hx
  rw [stp_same hs] at e
  exact ⟨h1.fr, by rw [e]; exact h1.ow, by rw [e]; exact h1.mp.mono (Nat.le_succ k)⟩
theorem TS.push (h : TS w b l k lv ts wr) (hb : b < w.heap.size) {x : RIn} (hx : l[k]? = some x) (hs : mvd (inF (trn (l.take k)).1 x) ≠ some (rgO x.dst)) {w9 : World} (f9 : Fr (fun q => q = b) wr w9) {t : TI} (ht : InT w9 (inF (trn (l.take k)).1 x) t) (hn : ∀ q, blT t q → wr.heap.size ≤ q ∧ q < w9.heap.size)
    (hm : MfW w9 b (k + 1) (stp (trn (l.take k)) x).1) {o : Obj} {v' : Value} {m : Nat} (hr : Ro w2 8 v' m (flt enT ts ++ enT t)) (hl : m = (trn (l.take k)).2.length + 1) (hg : (w9.alloc o).grownBy w2 lv.ownBlock) (hat : v'.ownBlock = lv.ownBlock ∨ v'.ownBlock = some (w9.alloc o).heap.size) :
    TS w b l (k + 1) v' (ts ++ [t]) w2 := by
  have hs0 := h.fr.size
  have hs9 := f9.size
  have e := trn_at l hx
  have ow9 := h.ow.frZ stayT f9 (fun q hq hz e => by have hz' : w.heap.size ≤ q := hz; omega)
  have hin := fun q (hq : lv.ownBlock = some q ∨ ∃ y ∈ ts, blT y q) => (h.ow.in hq).2
  obtain ⟨r1, r2⟩ := OW.push' stayT ow9 ht (fun q hq => ⟨by have := (hn q hq).1; show w.heap.size ≤ q; omega, (hn q hq).2, fun e => by have := (hn q hq).1; have := hin q (.inl e); omega⟩) (fun q hq y hy e => by have := (hn q hq).1; have := hin q (.inr ⟨y, hy, e⟩); omega) (box1n w9 o) (by show w.heap.size ≤ (w9.alloc o).heap.size; rw [World.size_alloc]; omega) hr hl hg hat
  have hlb : ∀ q, lv.ownBlock = some q → q ≠ b := fun q hq e => by have : w.heap.size ≤ q := h.ow.rb q hq; omega
  have F := h.fr.trans f9
  have hFs := F.size
  refine ⟨⟨r2.os.trans F.os, r2.tape.trans F.tape, r2.output.trans F.output, Nat.le_trans F.size r2.size, fun q hq hn' => (r2.block q (by omega) (fun e => by have : w.heap.size ≤ q := h.ow.rb q e; omega)).trans (F.block q hq hn')⟩, by rw [e, stp_list hs]; exact r1, by rw [e]; exact hm.fr r2 (fun q => hlb b q rfl)⟩
end
end Go.Proofs.Ytpbdpejhjdoleaa
