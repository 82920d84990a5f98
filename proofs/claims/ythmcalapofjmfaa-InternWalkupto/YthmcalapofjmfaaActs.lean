/-
  done, Done: an act.
-/
import Derived.Test.YthmcalapofjmfaaRows3
import Derived.Test.YthmcalapofjmfaaCut
import Derived.Test.YthmcalapofjmfaaAdd
namespace Go.Proofs.Ythmcalapofjmfaa
open Go.RowKit Go.Maps
set_option linter.unusedVariables false

/-- An act. -/
structure AcD where
  c : Bool
  n : Int
  s : ByteArray
def AcD.val (a : AcD) : Value := .agg #[.bool a.c, .int .i64 a.n, .string a.s]
/-- What it makes of a row. -/
def acts (l : List ByteArray) (a : AcD) : List ByteArray := if a.c then l.take a.n.toNat else ins l a.s
theorem acts_length (l : List ByteArray) (a : AcD) : (acts l a).length ≤ l.length + 1 := by
  unfold acts
  split
  · simp; omega
  · have := @ins_length l a.s; omega

theorem istep_after {p b : Nat} {w w1 w2 : World} {v v' : Value} (hB : Below w.heap.size w w1) (h : IStep p b w1 v w2 v') : IStep p b w v w2 v' :=
  (IStep.mk (Fr.of_below hB) (.inl rfl)).trans h

set_option maxRecDepth 100000 in
set_option maxHeartbeats 800000 in
theorem done_any {w : World} {p b : Nat} {v : Value} {rs : List ByteArray} (h : Ix w p b v rs) (a : AcD) (hs : a.s.size ≤ maxLen) (hl : rs.length < 11999999999999) : Calls Try.prog 24 #[.pointer (some ⟨p, 0, none⟩), a.val] w fun e w' =>
    e = .returned (.tuple #[]) ∧ ∃ v', Ix w' p b v' (acts rs a) ∧ IStep p b w v w' v' := by
  obtain ⟨c, z, s⟩ := a
  have hB : Below w.heap.size w (w.alloc (.cells #[.bool c, .int .i64 z, .string s] 54)) := (Below.refl _ _).alloc (Nat.le_refl _) _
  have h1 := h.below hB
  unfold AcD.val acts
  have HB := hide hB
  cases c with
  | true =>
    have HC := hide (cut_any h1 z (by omega))
    clear h h1 hB
    go_enter Try.func24, Try.ntmps24
    go_wp2_with fail
    refine (unhide HC).mono ?_
    rintro e w1 ⟨rfl, v', i1, s1⟩
    have I1 := hide (And.intro i1 s1)
    clear i1 s1 HC
    go_wp2_with fail
    refine bodyPost_ret (results_none rfl _ _ _) rfl ?_
    exact ⟨rfl, v', (unhide I1).1, istep_after (unhide HB) (unhide I1).2⟩
  | false =>
    have HC := hide (add_any h1 s hs hl)
    clear h h1 hB
    go_enter Try.func24, Try.ntmps24
    go_wp2_with fail
    refine (unhide HC).mono ?_
    rintro e w1 ⟨rfl, v', i1, s1⟩
    have I1 := hide (And.intro i1 s1)
    clear i1 s1 HC
    go_wp2_with fail
    go_end0
    exact ⟨rfl, v', (unhide I1).1, istep_after (unhide HB) (unhide I1).2⟩

/-- A row as it was, or a new one. -/
def Nx (w : World) (v u : Value) (l : List ByteArray) (w' : World) : Prop := Rt w' u l ∧ Below w.heap.size w w' ∧ (u.ownBlock = v.ownBlock ∨ ∀ k, u.ownBlock = some k → w.heap.size ≤ k ∧ k < w'.heap.size)

set_option maxRecDepth 100000 in
set_option maxHeartbeats 800000 in
theorem rdone_any {w : World} {v : Value} {l : List ByteArray} (h : Rt w v l) (a : AcD) (hl : l.length < 11999999999999) : Calls Try.prog 25 #[v, a.val] w fun e w' => ∃ u, e = .returned u ∧ Nx w v u (acts l a) w' := by
  obtain ⟨c, z, s⟩ := a
  have hB : Below w.heap.size w (w.alloc (.cells #[.bool c, .int .i64 z, .string s] 54)) := (Below.refl _ _).alloc (Nat.le_refl _) _
  have h1 := h.below hB
  unfold AcD.val acts
  have HB := hide hB
  have hsz : Hid (w.heap.size ≤ (w.alloc (.cells #[.bool c, .int .i64 z, .string s] 54)).heap.size) := hB.size
  cases c with
  | true =>
    have HC := hide (rcut_any h1 z (by omega))
    clear h h1 hB
    go_enter Try.func25, Try.ntmps25
    go_wp2_with fail
    refine (unhide HC).mono ?_
    rintro e w1 ⟨u, rfl, hN⟩
    have I1 := hide hN
    clear hN HC
    go_wp2_with fail
    go_ret
    exact ⟨_, rfl, (unhide I1).rt, (unhide HB).trans ((unhide I1).2.mono (unhide hsz)), .inr (fun k hk => ⟨Nat.le_trans (unhide hsz) ((unhide I1).1.lt k hk).1, ((unhide I1).1.lt k hk).2⟩)⟩
  | false =>
    have HC := hide (radd_any h1 s hl)
    clear h h1 hB
    go_enter Try.func25, Try.ntmps25
    go_wp2_with fail
    refine (unhide HC).mono ?_
    rintro e w1 ⟨u, rfl, q1, q2, q3⟩
    have I1 := hide (And.intro q1 (And.intro q2 q3))
    clear q1 q2 q3 HC
    go_wp2_with fail
    go_ret
    exact ⟨_, rfl, (unhide I1).1, (unhide HB).trans ((unhide I1).2.1.mono (unhide hsz)), (unhide I1).2.2.elim .inl (fun q => .inr (fun k hk => ⟨Nat.le_trans (unhide hsz) (q k hk).1, (q k hk).2⟩))⟩
end Go.Proofs.Ythmcalapofjmfaa
