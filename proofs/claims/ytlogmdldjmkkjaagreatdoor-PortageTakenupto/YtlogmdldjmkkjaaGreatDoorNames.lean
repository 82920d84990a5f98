/-
  The map of names; the fault of a name.
-/
import Derived.Test.YtlogmdldjmkkjaaGreatDoorSpelt
import Derived.Maps.OwnSet
namespace Go.Proofs.YtlogmdldjmkkjaaGreatDoor
open Go.RowKit Go.Maps
set_option linter.unusedVariables false
set_option linter.unusedSimpArgs false
/-- A key. -/
def ky (s : ByteArray) : Lit := .string s.data.toList
theorem ky_inj {s t : ByteArray} (h : ky s = ky t) : s = t := by
  unfold ky at h
  cases s; cases t
  simp at h
  simp [h]
theorem ky_key (s : ByteArray) : WideAt.IsKeyLit (ky s) := trivial
theorem law : Keyed Tryz.prog 9 := string_keyed Tryz.underlying9
theorem zeroE (w : World) : (zeroValue 3).run Tryz.prog w = .ok (.int .i64 0) w := by kernel_rfl
theorem ky_of {s : ByteArray} (h : s.size ≤ maxLen) : keyOf Tryz.prog 9 (.string s) = some (ky s) := WideMaps.keyOf_string_mk Tryz.underlying9 h

/-- Block b is a map of n entries, from texts to numbers. -/
def Mf (w : World) (b n : Nat) (f : ByteArray → Option Nat) : Prop :=
  ∃ D : DataW Unit, w.ownsMap Tryz.prog 9 (plainElem Tryz.prog 3) b n D ∧ Maps.size D = n ∧
    ∀ s, s.size ≤ maxLen → Maps.has D (ky s) = (f s).isSome ∧ D.atKey (ky s) (.lit (.int .i64 0)) = .lit (.int .i64 (((f s).getD 0 : Nat) : Int))

theorem Mf.lt {w : World} {b n : Nat} {f : ByteArray → Option Nat} (h : Mf w b n f) : b < w.heap.size := by
  obtain ⟨D, h1, _⟩ := h
  exact h1.lt
theorem Mf.keep {w w' : World} {b n : Nat} {f : ByteArray → Option Nat} (h : Mf w b n f) (hb : w'.heap[b]? = w.heap[b]?) : Mf w' b n f := by
  obtain ⟨D, ⟨es, clock, h1, h2⟩, h3⟩ := h
  exact ⟨D, ⟨es, clock, hb.trans h1, h2⟩, h3⟩
theorem Mf.congr {w : World} {b n : Nat} {f g : ByteArray → Option Nat} (h : Mf w b n f) (e : ∀ s, f s = g s) : Mf w b n g := by
  obtain rfl : f = g := funext e
  exact h
theorem Mf.made (w : World) : Mf (w.alloc (.map #[] 0)) w.heap.size 0 (fun _ => none) :=
  ⟨.map [], World.ownsMap_made _ _ _ _, rfl, fun s _ => ⟨rfl, rfl⟩⟩
theorem Mf.look {w : World} {b n : Nat} {f : ByteArray → Option Nat} (h : Mf w b n f) (s : ByteArray) (hs : s.size ≤ maxLen) :
    (Instr.lookup 145 (.map (some b)) (.string s) true).run Tryz.prog w = .ok (.tuple #[.int .i64 (((f s).getD 0 : Nat) : Int), .bool (f s).isSome]) w := by
  obtain ⟨D, h1, h2, h3⟩ := h
  obtain ⟨v, ps, hrun, hv⟩ := h1.look_ok law Tryz.underlying145 (zeroE w) (plainElem_int Tryz.underlying3 (by decide)) (ky_of hs)
  obtain ⟨c, rfl, hc, _⟩ := plainElem_int_inv Tryz.underlying3 hv
  obtain ⟨e1, e2⟩ := h3 s hs
  simp only [Prod.mk.injEq] at hc
  rw [e2] at hc
  rw [hrun, e1]
  have := hc.1
  simp only [DataW.lit.injEq, Lit.int.injEq, true_and] at this
  rw [this]

theorem Mf.put {w : World} {b n : Nat} {f : ByteArray → Option Nat} (h : Mf w b n f) (s : ByteArray) (hs : s.size ≤ maxLen) (hf : f s = none) (i : Nat) (hi : i < 9223372036854775808) (hn : n < maxLen) :
    ∃ w', (Instr.mapUpdate 145 (.map (some b)) (.string s) (.int .i64 (i : Int))).run Tryz.prog w = .ok () w' ∧ Mf w' b (n + 1) (fun t => if t = s then some i else f t) ∧ w.grownBy w' (some b) := by
  obtain ⟨D, h1, h2, h3⟩ := h
  have hwf : (Lit.int .i64 (i : Int)).wf = true := WalkArith.wf_i64 (by omega)
  obtain ⟨w', hrun, r1, r2⟩ := h1.update law Tryz.underlying145 hn (ky_of hs) (plainElem_int Tryz.underlying3 hwf)
  have hno : Maps.has D (ky s) = false := by rw [(h3 s hs).1, hf]; rfl
  refine ⟨w', hrun, ⟨_, r1, ?_, fun t ht => ?_⟩, r2⟩
  · rw [size_put (h1.tidy law), hno]
    simp [h2]
  · show _ = (if t = s then some i else f t).isSome ∧ _ = DataW.lit (.int .i64 (((if t = s then some i else f t).getD 0 : Nat) : Int))
    by_cases e : t = s
    · subst e
      rw [if_pos rfl, has_put_same h1.isMap (ky_key t), atKey_put_same h1.isMap (ky_key t)]
      exact ⟨rfl, rfl⟩
    · rw [if_neg e, has_put_other (fun q => e (ky_inj q)), atKey_put_other (fun q => e (ky_inj q))]
      exact h3 t ht


/-- The fault of a name, where some are taken. -/
def nmF (s : ByteArray) (taken : Bool) : Option (Int × Int) := if spB s = false then some (0, 6) else if s.size > 32 then some (0, 5) else if taken = true then some (0, 15) else none
set_option maxRecDepth 100000 in
set_option maxHeartbeats 3200000 in
theorem checkName_any (s : ByteArray) (hs : s.size ≤ 9223372036854775807) {w : World} {b n : Nat} {f : ByteArray → Option Nat} (h : Mf w b n f) : Calls Tryz.prog 129 #[.string s, .map (some b)] w fun e w' => e = .returned (erV (nmF s (f s).isSome)) ∧ w' = w := by
  have HS := hide (spelt_any s hs w)
  have hlook := h.look s hs
  obtain ⟨g, hg⟩ : ∃ g, (f s).isSome = g := ⟨_, rfl⟩
  obtain ⟨q, hq⟩ : ∃ q, (((f s).getD 0 : Nat) : Int) = q := ⟨_, rfl⟩
  rw [hg, hq] at hlook
  rw [hg]
  clear hg hq h
  cases hb : spB s
  · have e1 : nmF s g = some (0, 6) := by unfold nmF; rw [if_pos hb]
    rw [e1]
    rw [hb] at HS
    go_enter Tryz.func129, Tryz.ntmps129
    go_wp2_with fail
    refine (unhide HS).mono ?_
    rintro e w' ⟨rfl, rfl⟩
    go_wp2_with fail
    go_ret
    exact ⟨rfl, rfl⟩
  · have e0 : nmF s g = if s.size > 32 then some (0, 5) else if g = true then some (0, 15) else none := by unfold nmF; rw [if_neg (by rw [hb]; decide)]
    rw [hb] at HS
    by_cases h2 : s.size > 32
    · rw [if_pos h2] at e0
      rw [e0]
      have k2 : (32 : Int) < (s.size : Int) := by omega
      go_enter Tryz.func129, Tryz.ntmps129
      go_wp2_with fail
      refine (unhide HS).mono ?_
      rintro e w' ⟨rfl, rfl⟩
      go_wp2_with fail
      go_ret
      exact ⟨rfl, rfl⟩
    · rw [if_neg h2] at e0
      have k2 : decide ((32 : Int) < (s.size : Int)) = false := decide_eq_false (by omega)
      cases g
      · rw [if_neg (by decide)] at e0
        rw [e0]
        go_enter Tryz.func129, Tryz.ntmps129
        go_wp2_with fail
        refine (unhide HS).mono ?_
        rintro e w' ⟨rfl, rfl⟩
        go_wp2_with fail
        go_ret
        exact ⟨rfl, rfl⟩
      · rw [if_pos rfl] at e0
        rw [e0]
        go_enter Tryz.func129, Tryz.ntmps129
        go_wp2_with fail
        refine (unhide HS).mono ?_
        rintro e w' ⟨rfl, rfl⟩
        go_wp2_with fail
        go_ret
        exact ⟨rfl, rfl⟩
end Go.Proofs.YtlogmdldjmkkjaaGreatDoor
