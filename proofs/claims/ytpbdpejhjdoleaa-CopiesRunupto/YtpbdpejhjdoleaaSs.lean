/-
  Operands, each asked for at its source.
-/
import Derived.Test.YtpbdpejhjdoleaaMv
namespace Go.Proofs.Ytpbdpejhjdoleaa
open Go.RowKit
set_option linter.unusedVariables false
set_option linter.unusedSimpArgs false
theorem oneO (l : List Op) : ∀ u ∈ flt enO l, u.oneCell' = true := fun u hu => by
  obtain ⟨x, _, h2⟩ := List.mem_flatMap.1 hu
  simp only [enO, List.mem_cons, List.not_mem_nil, or_false] at h2
  rcases h2 with rfl | rfl <;> rfl
def mix {A : Type} (g : A → A) (l : List A) (k : Nat) : List A := (l.take k).map g ++ l.drop k
section
variable {A : Type} {g : A → A} {l : List A} {k : Nat}
theorem mix_len : (mix g l k).length = l.length := by simp [mix]; omega
theorem mix_zero : mix g l 0 = l := by simp [mix]
theorem mix_all : mix g l l.length = l.map g := by simp [mix]
theorem mix_at {x : A} (h : l[k]? = some x) : (mix g l k)[k]? = some x := by
  have hk := (List.getElem?_eq_some_iff.1 h).1
  unfold mix
  rw [List.getElem?_append_right (by simp; omega)]
  simp [Nat.min_eq_left (Nat.le_of_lt hk), h]
theorem mix_set {x : A} (h : l[k]? = some x) : (mix g l k).set k (g x) = mix g l (k + 1) := by
  have hk := (List.getElem?_eq_some_iff.1 h).1
  have hd : l.drop k = x :: l.drop (k + 1) := by
    rw [List.drop_eq_getElem_cons hk]
    have := (List.getElem?_eq_some_iff.1 h).2
    rw [this]
  unfold mix
  rw [List.set_append_right _ _ (by simp; omega), take_push h, hd]
  simp [Nat.min_eq_left (Nat.le_of_lt hk)]
end
/-- While operands are asked for: the first k are. -/
structure SoS (w : World) (f : Op → Wr) (l : List Op) (v : Value) (k : Nat) (wr : World) : Prop where
  bl : Below w.heap.size w wr
  row : Ro wr 2 v l.length (flt enO (mix (srcF f) l k))
  rb : ∀ b, v.ownBlock = some b → w.heap.size ≤ b
theorem SoS.on {w wr w1 : World} {f : Op → Wr} {l : List Op} {v : Value} {k : Nat} (h : SoS w f l v k wr) (hb : Below wr.heap.size wr w1) : SoS w f l v k w1 :=
  ⟨bl_past h.bl hb, h.row.fr (Fr.of_below (S := fun _ => False) hb) (fun _ _ e => e), h.rb⟩
theorem SoS.step {w w1 : World} {f : Op → Wr} {l : List Op} {v : Value} {k : Nat} (h1 : SoS w f l v k w1) {o : Op} (ho : l[k]? = some o) {g off cap : Nat} (e : v = .slice (some ⟨g, off, none⟩) l.length cap) :
    SoS w f l v (k + 1) (w1.setCells g (off + k * 2) (enO (srcF f o))) := by
  have hk := (List.getElem?_eq_some_iff.1 ho).1
  obtain ⟨r1, t1⟩ := h1.row.putAt zO mix_len e hk (srcF f o)
  rw [mix_set ho] at r1
  have hg := h1.rb g (by rw [e]; rfl)
  exact ⟨h1.bl.trans (t1.below h1.bl.size (fun b hb q => by have q' : b = g := q; omega)), r1, h1.rb⟩
set_option maxRecDepth 100000 in
set_option maxHeartbeats 3200000 in
theorem sources_any {w : World} {b n : Nat} {f : Op → Wr} {D : Nat → Prop} {l : List Op} {v : Value} (h : OpV D w l v) (hm : MfW w b n f) (hf : OkF f) (ho : ∀ o ∈ l, OkO o) (hN : l.length ≤ 1048576) :
    Calls Try.prog 39 #[.map (some b), v] w fun e w' => ∃ v', e = .returned v' ∧ Gx w 2 enO (l.map (srcF f)) v' w' := by
  have HC := hide (cloneO_any h.1 (oneO l) hN)
  have HS : Hid (∀ W, Below w.heap.size w W → ∀ o ∈ l, Calls Try.prog 50 #[.map (some b), .agg #[.int .i64 o.k, .int .i64 o.n]] W fun e w' => e = .returned (.agg #[.int .i64 (srcF f o).k, .int .i64 (srcF f o).n]) ∧ Below W.heap.size W w') := fun W hW o hq =>
    source_any (hm.fr (Fr.of_below (S := fun _ => False) hW) (fun q => q)) (ho o hq) hf
  obtain ⟨a, c, ev, ha1, ha2⟩ := h.1.shape
  subst ev
  clear h hm hf ho
  obtain ⟨L, hL⟩ : ∃ L, Hid (l.length = L) := ⟨_, hide rfl⟩
  rw [unhide hL] at HC hN ha1 ⊢
  go_enter Try.func39, Try.ntmps39
  go_wp2_with fail
  refine (unhide HC).mono ?_
  rintro e w1 ⟨v', rfl, hG⟩
  have HT : Hid (SoS w f l v' 0 w1) := ⟨hG.2.1, by rw [mix_zero]; exact hG.1, hG.2.2⟩
  obtain ⟨a', c', ev, hb1, hb2⟩ := (unhide HT).row.shape
  rw [unhide hL] at ev hb1
  subst ev
  unfold maxLen at hb2
  clear hG HC
  go_wp2_with fail
  go_loopg [11] L (fun gg t11 wr => ∃ (k : Nat), Hid (k + gg = L) ∧ t11 = .int .i64 (k : Int) ∧ Hid (SoS w f l (.slice a' L c') k wr))
  case atStart => exact ⟨0, by unfold Hid; omega, rfl, HT⟩
  case round =>
    clear HT
    obtain ⟨k, hk, rfl, hS⟩ := hrel
    by_cases hlt : k < L
    · have i0 : (0 : Int) ≤ (k : Int) := by omega
      have i1 : (k : Int) < (L : Int) := by omega
      obtain ⟨o, hs⟩ : ∃ s, l[k]? = some s := ⟨_, List.getElem?_eq_getElem (by rw [unhide hL]; exact hlt)⟩
      have hrow : Ro wr 2 (.slice a' L c') (mix (srcF f) l k).length (flt enO (mix (srcF f) l k)) := by rw [mix_len]; exact (unhide hS).row
      obtain ⟨g, off, cc, eg, _, _, hgl, hgc⟩ := (Rx.of_ro hrow).elem zO (mix_at hs)
      obtain ⟨e5, e6⟩ : a' = some ⟨g, off, none⟩ ∧ c' = cc := by cases eg; exact ⟨rfl, rfl⟩
      subst e5
      subst e6
      clear eg
      have q0 : wr.cell? ⟨g, off + k * 2, none⟩ = some (.int .i64 o.k) := hgc 0 _ rfl
      have q1 : wr.cell? ⟨g, off + k * 2 + 1, none⟩ = some (.int .i64 o.n) := hgc 1 _ rfl
      have HSR := hide (unhide HS (wr.alloc (.cells #[.int .i64 o.k, .int .i64 o.n] 52)) (bl_past (unhide hS).bl (box1n _ _)) o (List.mem_of_getElem? hs))
      have HSS := hide hs
      clear hrow hgc hs
      go_wp2_with fail
      clear q0 q1
      refine (unhide HSR).mono ?_
      rintro e w2 ⟨rfl, b2⟩
      have H2 := hide ((unhide hS).on (bl_past (box1n _ _) b2))
      have HST := hide ((unhide H2).step (unhide HSS) (g := g) (off := off) (cap := c') (by rw [unhide hL]))
      have g2 : w2.frozen? ⟨g, off + k * 2, none⟩ = false := (unhide H2).row.free (g := g) (off := off) (cap := c') (by rw [unhide hL]) _
      have g3 : w2.frozen? ⟨g, off + k * 2 + 1, none⟩ = false := (unhide H2).row.free (g := g) (off := off) (cap := c') (by rw [unhide hL]) _
      have hrow : Ro w2 2 (.slice (some ⟨g, off, none⟩) L c') (mix (srcF f) l k).length (flt enO (mix (srcF f) l k)) := by rw [mix_len]; exact (unhide H2).row
      obtain ⟨g', off', cc, eg, _, _, hgl2, hgc⟩ := (Rx.of_ro hrow).elem zO (mix_at (unhide HSS))
      cases eg
      have q0 : w2.cell? ⟨g, off + k * 2, none⟩ = some (.int .i64 o.k) := hgc 0 _ rfl
      have q1 : w2.cell? ⟨g, off + k * 2 + 1, none⟩ = some (.int .i64 o.n) := hgc 1 _ rfl
      clear hrow hgc b2
      go_wp2_with fail
      go_roundg (gk - 1)
      case measure => have := unhide hk; omega
      case rel => exact ⟨k + 1, by have := unhide hk; unfold Hid; omega, by go_num, HST⟩
    · have hkL : k = L := by have := unhide hk; omega
      subst hkL
      have i1 : ¬ (k : Int) < (k : Int) := by omega
      have HG : Hid (Gx w 2 enO (l.map (srcF f)) (.slice a' k c') wr) := ⟨by
        have := (unhide hS).row
        rw [unhide hL] at this
        rw [List.length_map, unhide hL, ← mix_all, unhide hL]
        exact this, (unhide hS).bl, (unhide hS).rb⟩
      go_wp2_with fail
      go_ret
      first | exact ⟨_, rfl, unhide HG⟩ | exact unhide HG
end Go.Proofs.Ytpbdpejhjdoleaa
