/-
  The document's Merge.
-/
import Derived.Test.YtclcebdcdbcpjaaGreatPCp
import Derived.Test.YtclcebdcdbcpjaaGreatPMg1
namespace Go.Proofs.YtclcebdcdbcpjaaGreat
open Go.RowKit
set_option linter.unusedVariables false
set_option linter.unusedSimpArgs false
def mrgL (f g : List (List Sp)) (n : Nat) : List Sp := (List.range (max (szP f n) (szP g n))).map (fun (k : Nat) => tog (atP f n k) (atP g n k))
/-- Two profiles together. -/
def mrg (f g : List (List Sp)) : List (List Sp) := (List.range (max f.length g.length)).map (mrgL f g)
theorem mrg_len (f g : List (List Sp)) : (mrg f g).length = max f.length g.length := by simp [mrg]
theorem mrg_at {f g : List (List Sp)} {i : Nat} (h : i < max f.length g.length) : (mrg f g)[i]? = some (mrgL f g i) := by simp [mrg, h]
theorem mrgL_len (f g : List (List Sp)) (n : Nat) : (mrgL f g n).length = max (szP f n) (szP g n) := by simp [mrgL]
theorem mrgL_at {f g : List (List Sp)} {n k : Nat} {x : Sp} (h : (mrgL f g n)[k]? = some x) : tog (atP f n k) (atP g n k) = x := by
  have hk := (List.getElem?_eq_some_iff.1 h).1
  rw [mrgL_len] at hk
  simp [mrgL, hk] at h
  exact h
theorem szP_le {f : List (List Sp)} {B : Nat} (h : ∀ l ∈ f, l.length ≤ B) (n : Int) : szP f n ≤ B := by
  unfold szP
  split
  · omega
  · cases e : f[n.toNat]? with
    | none => simp
    | some l => simpa using h l (List.mem_of_getElem? e)
/-- All spots have numbers of their kinds. -/
def OkFm (f : List (List Sp)) : Prop := ∀ l ∈ f, ∀ s ∈ l, okS s
theorem okS_z : okS spZ := by unfold okS spZ; simp
theorem atP_ok {f : List (List Sp)} (h : OkFm f) (n k : Int) : okS (atP f n k) := by
  unfold atP
  split
  · exact okS_z
  · cases e : f[n.toNat]? with
    | none => simpa using okS_z
    | some l =>
      cases e2 : l[k.toNat]? with
      | none => simpa [e2] using okS_z
      | some s => simpa [e2] using h l (List.mem_of_getElem? e) s (List.mem_of_getElem? e2)
theorem Gx.on {T : Type} {w wr w' : World} {sz : Nat} {en : T → List Value} {l : List T} {v : Value} (h : Gx w sz en l v wr) (k : Below wr.heap.size wr w') : Gx w sz en l v w' :=
  ⟨h.1.fr (Fr.of_below (S := fun _ => False) k) (fun _ _ e => e), bl_past h.2.1 k, h.2.2⟩
theorem box4 (w : World) (cs : Array Value) (t1 : TypeId) : Below w.heap.size w (w.alloc (.cells cs t1)) := (Below.refl _ w).alloc (Nat.le_refl _) _
end Go.Proofs.YtclcebdcdbcpjaaGreat
