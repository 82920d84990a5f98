/-
  Profiles in memory.
-/
import Derived.Test.YtjjfpokmpcpicaaPB
namespace Go.Proofs.Ytjjfpokmpcpicaa
open Go.RowKit
set_option linter.unusedVariables false
set_option linter.unusedSimpArgs false
/-- A spot. -/
structure Sp where
  c : Int
  a : Int
  b : Int
  k : Int
def enS (s : Sp) : List Value := [.int .i64 s.c, .int .u16 s.a, .int .u16 s.b, .int .i64 s.k]
theorem zS : ∀ p, (enS p).length = 4 := fun _ => rfl
def spV (s : Sp) : Value := .agg #[.int .i64 s.c, .int .u16 s.a, .int .u16 s.b, .int .i64 s.k]
theorem oneS (l : List Sp) : ∀ u ∈ flt enS l, u.oneCell' = true := fun u hu => by
  obtain ⟨x, _, h2⟩ := List.mem_flatMap.1 hu
  simp only [enS, List.mem_cons, List.not_mem_nil, or_false] at h2
  rcases h2 with rfl | rfl | rfl | rfl <;> rfl
def spZ : Sp := ⟨0, 0, 0, 0⟩
/-- Numbers of their kinds. -/
def okS (s : Sp) : Prop := (-9223372036854775808 ≤ s.c ∧ s.c < 9223372036854775808) ∧ (0 ≤ s.a ∧ s.a < 65536) ∧ (0 ≤ s.b ∧ s.b < 65536) ∧ -9223372036854775808 ≤ s.k ∧ s.k < 9223372036854775808
/-- A profile's lists that can be read. -/
def PfV (w : World) (v : Value) (f : List (List Sp)) : Prop :=
  ∃ vs : List Value, vs.length = f.length ∧ Rx w 1 v vs.length (flt enV vs) ∧ ∀ (i : Nat) (l : List Sp) (u : Value), f[i]? = some l → vs[i]? = some u → Rx w 4 u l.length (flt enS l)
theorem PfV.below {w w' : World} {v : Value} {f : List (List Sp)} {B : Nat} (h : PfV w v f) (k : Below B w w') (hB : w.heap.size ≤ B) : PfV w' v f := by
  obtain ⟨vs, h1, h2, h3⟩ := h
  exact ⟨vs, h1, h2.below k hB, fun i l u hl hu => (h3 i l u hl hu).below k hB⟩
theorem PfV.shape {w : World} {v : Value} {f : List (List Sp)} (h : PfV w v f) : ∃ a cap, v = .slice a f.length cap ∧ f.length ≤ cap ∧ cap ≤ maxLen := by
  obtain ⟨xs, h1, ⟨_, a, cap, e, hl, hm, _⟩, _⟩ := h
  exact ⟨a, cap, by rw [e, h1], by omega, hm⟩
theorem PfV.nil (w : World) : PfV w (.slice none 0 0) [] := ⟨[], rfl, by simpa [flt] using Rx.nil w 1, fun i o x h => by simp at h⟩
/-- One function's list. -/
theorem PfV.row {w : World} {a : Option Addr} {n cap : Nat} {f : List (List Sp)} (h : PfV w (.slice a n cap) f) {i : Nat} {l : List Sp} (hl : f[i]? = some l) :
    ∃ b off la lc, a = some ⟨b, off, none⟩ ∧ b < w.heap.size ∧ w.cell? ⟨b, off + i, none⟩ = some (.slice la l.length lc) ∧ Rx w 4 (.slice la l.length lc) l.length (flt enS l) ∧ l.length ≤ lc ∧ lc ≤ maxLen := by
  obtain ⟨xs, h1, h2, h3⟩ := h
  have hi := (List.getElem?_eq_some_iff.1 hl).1
  have hx : xs[i]? = some (xs[i]'(by omega)) := List.getElem?_eq_getElem (by omega)
  obtain ⟨b, off, cap', e, _, _, hb, hc⟩ := h2.elem zV hx
  cases e
  have r := h3 i l _ hl hx
  obtain ⟨la, lc, e, m1, m2⟩ := r.shape
  rw [e] at r hc
  have := hc 0 _ rfl
  rw [Nat.mul_one, Nat.add_zero] at this
  exact ⟨b, off, la, lc, rfl, hb, this, r, m1, m2⟩
/-- One spot's cells. -/
theorem Rx.spot {w : World} {a : Option Addr} {n cap : Nat} {l : List Sp} (h : Rx w 4 (.slice a n cap) l.length (flt enS l)) {i : Nat} {s : Sp} (hs : l[i]? = some s) :
    ∃ b off, a = some ⟨b, off, none⟩ ∧ b < w.heap.size ∧ w.cell? ⟨b, off + i * 4, none⟩ = some (.int .i64 s.c) ∧ w.cell? ⟨b, off + i * 4 + 1, none⟩ = some (.int .u16 s.a) ∧ w.cell? ⟨b, off + i * 4 + 2, none⟩ = some (.int .u16 s.b) ∧ w.cell? ⟨b, off + i * 4 + 3, none⟩ = some (.int .i64 s.k) := by
  obtain ⟨b, off, cap', e, _, _, hb, hc⟩ := h.elem zS hs
  cases e
  exact ⟨b, off, rfl, hb, hc 0 _ rfl, hc 1 _ rfl, hc 2 _ rfl, hc 3 _ rfl⟩
theorem infS : (Try.prog.info? 56).map (fun i => (i.zero, i.size, i.bytes)) = some (some (.agg #[.int .i64 0, .int .u16 0, .int .u16 0, .int .i64 0]), 4, 24) := by kernel_rfl
theorem infR : (Try.prog.info? 53).map (fun i => (i.zero, i.size, i.bytes)) = some (some (.slice none 0 0), 1, 24) := by kernel_rfl
/-- append of a spot. -/
theorem appS {w : World} {ops : Array Oper} {rest : List Oper} {o : Oper} {a : Act} {Q : Exit → Act → World → Prop}
    (hg : o.guard = none) (s x : Operand) (hop : o.op = Op.call { callee := Callee.builtin Builtin.append, args := #[s, x], argTypes := #[53, 53] })
    (v : Value) (l : List Sp) (hs : a.eval s = v) (hr : Ro w 4 v l.length (flt enS l)) (ad : Addr) (c : Nat) (p : Sp) (hx : a.eval x = .slice (some ad) 1 c) (hc : ∀ j u, (enS p)[j]? = some u → w.cell? (ad.add j) = some u)
    (hN : l.length ≤ 5864062014700)
    (hK : ∀ v' w', Ro w' 4 v' (l.length + 1) (flt enS l ++ enS p) → w.grownBy w' v.ownBlock → (v'.ownBlock = v.ownBlock ∨ v'.ownBlock = some w.heap.size) → wpList Try.prog ops Q rest (a.put o.dst v') w') :
    wpList Try.prog ops Q (o :: rest) a w := by
  obtain ⟨i0, hi0, hz0, hz1, hz2⟩ := info_parts infS
  exact wpList_app hg s x 53 hop 56 i0 _ 4 24 Try.underlying53 hi0 hz0 hz1 hz2 rfl (by decide) v l.length (flt enS l) hs hr ad 1 c (enS p) hx rfl hc (by simp [enS, Value.oneCell']) (by omega) (by unfold maxLen; omega) (by omega) hK
/-- append of a list. -/
theorem appR {w : World} {ops : Array Oper} {rest : List Oper} {o : Oper} {a : Act} {Q : Exit → Act → World → Prop}
    (hg : o.guard = none) (s x : Operand) (hop : o.op = Op.call { callee := Callee.builtin Builtin.append, args := #[s, x], argTypes := #[26, 26] })
    (v : Value) (l : List Value) (hs : a.eval s = v) (hr : Ro w 1 v l.length (flt enV l)) (ad : Addr) (c : Nat) (p : Value) (hp : p.oneCell' = true) (hx : a.eval x = .slice (some ad) 1 c) (hc : ∀ j u, (enV p)[j]? = some u → w.cell? (ad.add j) = some u)
    (hN : l.length ≤ 5864062014700)
    (hK : ∀ v' w', Ro w' 1 v' (l.length + 1) (flt enV l ++ enV p) → w.grownBy w' v.ownBlock → (v'.ownBlock = v.ownBlock ∨ v'.ownBlock = some w.heap.size) → wpList Try.prog ops Q rest (a.put o.dst v') w') :
    wpList Try.prog ops Q (o :: rest) a w := by
  obtain ⟨i0, hi0, hz0, hz1, hz2⟩ := info_parts infR
  exact wpList_app hg s x 26 hop 53 i0 _ 1 24 Try.underlying26 hi0 hz0 hz1 hz2 rfl (by decide) v l.length (flt enV l) hs hr ad 1 c (enV p) hx rfl hc (by simpa [enV] using hp) (by omega) (by unfold maxLen; omega) (by omega) hK
theorem neqS {p q : Sp} (h : ¬ p = q) : ∀ w : World, (binOp .neq 56 (spV p) (spV q)).run Try.prog w = .ok (.bool true) w := fun w => by
  obtain ⟨p1, p2, p3, p4⟩ := p
  obtain ⟨q1, q2, q3, q4⟩ := q
  unfold spV
  by_cases e1 : p1 = q1
  · by_cases e2 : p2 = q2
    · by_cases e3 : p3 = q3
      · have e4 : ¬ p4 = q4 := fun e => h (by rw [e1, e2, e3, e])
        subst e1 e2 e3
        go_simp
      · subst e1 e2
        go_simp
    · subst e1
      go_simp
  · go_simp
theorem neqS0 (p : Sp) : ∀ w : World, (binOp .neq 56 (spV p) (spV p)).run Try.prog w = .ok (.bool false) w := fun w => by
  unfold spV
  go_simp
theorem eqS0 (p : Sp) : ∀ w : World, (binOp .eql 56 (spV p) (spV p)).run Try.prog w = .ok (.bool true) w := fun w => by
  unfold spV
  go_simp
end Go.Proofs.Ytjjfpokmpcpicaa
