/-
  A state lent: what stands while it is made.
-/
import Derived.Test.YtfoanikkngmeiaaCpo
namespace Go.Proofs.Ytfoanikkngmeiaa
open Go.RowKit
set_option linter.unusedVariables false
set_option linter.unusedSimpArgs false
/-- A room: values, and marks behind them. -/
def PR (w : World) (l : List (Int × Int)) (r : Value) : Prop := Ro w 2 r (l.length + 64) (flt enI (l ++ mkV 64))
def blV (r : Value) (k : Nat) : Prop := r.ownBlock = some k
theorem staysR : Stays PR blV := fun S w w' u x h f hk => h.fr f hk
abbrev OR := OW enV 1 PR blV
theorem infR : (Try.prog.info? 40).map (fun i => (i.zero, i.size, i.bytes)) = some (some (.slice none 0 0), 1, 24) := by kernel_rfl
set_option maxRecDepth 100000 in
theorem appR {w : World} {ops : Array Oper} {rest : List Oper} {o : Oper} {a : Act} {Q : Exit → Act → World → Prop}
    (hg : o.guard = none) (s x : Operand) (hop : o.op = Op.call { callee := Callee.builtin Builtin.append, args := #[s, x], argTypes := #[47, 47] })
    (v : Value) (n : Nat) (l : List Value) (hs : a.eval s = v) (hr : Ro w 1 v n (flt enV l)) (ad : Addr) (c : Nat) (p : Value) (hx : a.eval x = .slice (some ad) 1 c) (hc : ∀ j u, (enV p)[j]? = some u → w.cell? (ad.add j) = some u)
    (h1 : p.oneCell' = true) (hN : n ≤ 3000000000000)
    (hK : ∀ v' w', Ro w' 1 v' (n + 1) (flt enV l ++ enV p) → w.grownBy w' v.ownBlock → (v'.ownBlock = v.ownBlock ∨ v'.ownBlock = some w.heap.size) → wpList Try.prog ops Q rest (a.put o.dst v') w') :
    wpList Try.prog ops Q (o :: rest) a w := by
  obtain ⟨i0, hi0, hz0, hz1, hz2⟩ := info_parts infR
  exact wpList_app hg s x 47 hop 40 i0 _ 1 24 Try.underlying47 hi0 hz0 hz1 hz2 rfl (by decide) v n (flt enV l) hs hr ad 1 c (enV p) hx rfl hc (by intro u hu; simp only [enV, List.mem_cons, List.not_mem_nil, or_false] at hu; rcases hu with rfl; assumption) (by omega) (by unfold maxLen; omega) (by omega) hK
/-- Rooms that can be read. -/
def RmV (w : World) (rv : Value) (ls : List (List (Int × Int))) : Prop :=
  ∃ R : List Value, R.length = ls.length ∧ Rx w 1 rv R.length (flt enV R) ∧ ∀ (i : Nat) (l : List (Int × Int)) (r : Value), ls[i]? = some l → R[i]? = some r → Rx w 2 r (l ++ mkV 64).length (flt enI (l ++ mkV 64))
theorem RmV.below {w w' : World} {v : Value} {ls : List (List (Int × Int))} {B : Nat} (h : RmV w v ls) (k : Below B w w') (hB : w.heap.size ≤ B) : RmV w' v ls := by
  obtain ⟨R, h1, h2, h3⟩ := h
  exact ⟨R, h1, h2.below k hB, fun i l r hl hr => (h3 i l r hl hr).below k hB⟩
end Go.Proofs.Ytfoanikkngmeiaa
