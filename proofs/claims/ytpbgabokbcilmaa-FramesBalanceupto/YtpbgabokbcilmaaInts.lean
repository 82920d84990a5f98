/-
  Lists of numbers: copied, marked, held against each other; Pick; Block.
-/
import Derived.Test.YtpbgabokbcilmaaStkN
namespace Go.Proofs.Ytpbgabokbcilmaa
open Go.RowKit
set_option linter.unusedVariables false
set_option linter.unusedSimpArgs false

theorem Try.info2 : (Try.prog.info? 2).map (fun i => (i.zero, i.size, i.bytes)) = some (some (.int .i64 0), 1, 8) := by kernel_rfl
/-- Numbers that can be read. -/
def Rn (w : World) (v : Value) (xs : List Int) : Prop := Rx w 1 v xs.length (flt enN xs)
theorem Rn.at {w : World} {v : Value} {xs : List Int} (h : Rn w v xs) {i : Nat} {x : Int} (hx : xs[i]? = some x) :
    ∃ b off cap, v = .slice (some ⟨b, off, none⟩) xs.length cap ∧ b < w.heap.size ∧ w.cell? ⟨b, off + i, none⟩ = some (.int .i64 x) := by
  obtain ⟨b, off, cap, e, _, _, hb, hc⟩ := Rx.elem zN h hx
  have := hc 0 _ rfl
  rw [Nat.mul_one, Nat.add_zero] at this
  exact ⟨b, off, cap, e, hb, this⟩
theorem Rn.shape {w : World} {v : Value} {xs : List Int} (h : Rn w v xs) : ∃ a cap, v = .slice a xs.length cap ∧ xs.length ≤ cap ∧ cap ≤ maxLen := by
  obtain ⟨_, a, cap, e, h1, h2, _⟩ := h
  exact ⟨a, cap, e, h1, h2⟩
theorem Rn.below {w w' : World} {v : Value} {xs : List Int} {B : Nat} (h : Rn w v xs) (f : Below B w w') (hB : w.heap.size ≤ B) : Rn w' v xs := Rx.below h f hB
theorem Rn.of_ro {w : World} {v : Value} {xs : List Int} (h : Ro w 1 v xs.length (flt enN xs)) : Rn w v xs := Rx.of_ro h
theorem Rn.drewN {w : World} {v : Value} {xs : List Int} (h : Rn w v xs) (k : Nat) : Rn (w.drewN k) v xs := Rx.fr (S := fun _ => False) h (Fr.drewN k) (fun _ _ e => e)
abbrev Gn (w : World) (xs : List Int) (v : Value) (wr : World) : Prop := Gx w 1 enN xs v wr

theorem wpList_appN {w : World} {ops : Array Oper} {rest : List Oper} {o : Oper} {a : Act} {Q : Exit → Act → World → Prop}
    (hg : o.guard = none) (s x : Operand) (hop : o.op = Op.call { callee := Callee.builtin Builtin.append, args := #[s, x], argTypes := #[23, 23] })
    (v : Value) (l : List Int) (hs : a.eval s = v) (hr : Ro w 1 v l.length (flt enN l)) (ad : Addr) (c : Nat) (k : Int) (hx : a.eval x = .slice (some ad) 1 c) (hc : ∀ j u, [Value.int .i64 k][j]? = some u → w.cell? (ad.add j) = some u)
    (hN : l.length < 17592186044416)
    (hK : ∀ v' w', Ro w' 1 v' (l.length + 1) (flt enN l ++ enN k) → w.grownBy w' v.ownBlock → (v'.ownBlock = v.ownBlock ∨ v'.ownBlock = some w.heap.size) → wpList Try.prog ops Q rest (a.put o.dst v') w') :
    wpList Try.prog ops Q (o :: rest) a w := by
  obtain ⟨i0, hi0, hz0, hz1, hz2⟩ := info_parts Try.info2
  exact wpList_app hg s x 23 hop 2 i0 _ 1 8 Try.underlying23 hi0 hz0 hz1 hz2 rfl (by decide) v l.length (flt enN l) hs hr ad 1 c [.int .i64 k] hx rfl hc (by simp [Value.oneCell']) (by omega) (by unfold maxLen; omega) (by omega) hK

set_option maxRecDepth 100000 in
set_option maxHeartbeats 1600000 in
theorem copyN_any {w : World} {lv : Value} {l : List Int} (h : Rn w lv l) (hN : l.length ≤ 17592186043904) :
    Calls Try.prog 8 #[lv] w fun e w' => ∃ v', e = .returned v' ∧ Gn w l v' w' := by
  have HC := hide (fun i x (hx : l[i]? = some x) => h.at hx)
  obtain ⟨a, cap, rfl, hlc, hcm⟩ := h.shape
  obtain ⟨L, hL⟩ : ∃ L, Hid (l.length = L) := ⟨_, rfl⟩
  rw [unhide hL] at hN hlc HC ⊢
  clear h
  go_enter Try.func8, Try.ntmps8
  go_wp2_with fail
  go_loopg [3, 4] L (fun g t3 t4 wr => ∃ (i : Nat) (v : Value), Hid (i + g = L) ∧ t3 = v ∧ t4 = .int .i64 (i : Int) ∧ Hid (Gn w (l.take i) v wr))
  case atStart => exact ⟨0, _, by unfold Hid; omega, rfl, rfl, ⟨by simpa [flt] using Ro.nil _ _, Below.refl _ _, by simp [Value.ownBlock]⟩⟩
  case round =>
    obtain ⟨i, v, hi, rfl, rfl, hG⟩ := hrel
    by_cases hlt : i < L
    · have hil : i < l.length := by rw [unhide hL]; exact hlt
      obtain ⟨p, hp⟩ : ∃ p, l[i]? = some p := ⟨_, List.getElem?_eq_getElem hil⟩
      obtain ⟨b, off, c', e, hb, c0⟩ := unhide HC i p hp
      cases e
      have hs := (unhide hG).2.1
      have k0 := (hs.cell (p := ⟨b, off + i, none⟩) hb).trans c0
      have hbr := Nat.lt_of_lt_of_le hb hs.size
      have i0 : (0 : Int) ≤ (i : Int) := by omega
      have i1 : (i : Int) < (L : Int) := by omega
      have htl : (l.take i).length = i := by simp; omega
      have HRo := hide (unhide hG).1
      have HP := hide hp
      clear hs c0 hp
      go_wp2_with (first | (at_builtin; refine wpList_appN rfl _ _ rfl _ (l.take i) rfl ((unhide HRo).keep (fun g hg => Below.heap_alloc _ _ _ ((unhide HRo).lt g hg))) ⟨wr.heap.size, 0, none⟩ 1 p rfl (new_cells _ #[_] _) (by rw [htl]; omega) ?_))
      intro v' w' hr hg hat
      have hG2 := Gx.push (p := p) (unhide hG) hr (by rw [htl]) hg (by simpa using hat)
      rw [← take_push (unhide HP)] at hG2
      have HG2 := hide hG2
      clear hr hg hat hG2
      go_wp2_with fail
      go_roundg (gk - 1)
      case measure => have := unhide hi; omega
      case rel => exact ⟨i + 1, v', by have := unhide hi; unfold Hid; omega, rfl, by go_num, HG2⟩
    · have hiL : i = L := by have := unhide hi; omega
      subst hiL
      have hG0 := unhide hG
      rw [List.take_of_length_le (by rw [unhide hL]; exact Nat.le_refl _)] at hG0
      have HG0 := hide hG0
      clear hG hG0
      go_wp2_with fail
      go_ret
      exact ⟨_, rfl, unhide HG0⟩

set_option maxRecDepth 100000 in
set_option maxHeartbeats 3200000 in
theorem sameN_any {w : World} {u v : Value} {l : List Int} (hu : Rn w u l) (hv : Rn w v l) :
    Calls Try.prog 17 #[u, v] w fun e w' => e = .returned (.bool true) ∧ ∃ k, w' = w.drewN k := by
  have HU := hide (fun i p (hp : l[i]? = some p) => hu.at hp)
  have HV := hide (fun i p (hp : l[i]? = some p) => hv.at hp)
  obtain ⟨ua, uc, rfl, _, um⟩ := hu.shape
  obtain ⟨va, vc, rfl, _⟩ := hv.shape
  obtain ⟨L, hL⟩ : ∃ L, Hid (l.length = L) := ⟨_, rfl⟩
  have hLm : L ≤ maxLen := by rw [← unhide hL]; omega
  unfold maxLen at hLm
  rw [unhide hL] at HU HV ⊢
  clear hu hv um
  have d0 : (((L : Nat) : Int) != (L : Int)) = false := by simp
  go_enter Try.func17, Try.ntmps17
  go_wp2_with fail
  go_loopg [5] L (fun gg t5 wr => ∃ (i : Nat), Hid (i + gg = L) ∧ t5 = .int .i64 (i : Int) ∧ Hid (∃ k, wr = w.drewN k))
  case atStart => exact ⟨0, by unfold Hid; omega, rfl, 0, rfl⟩
  case round =>
    obtain ⟨i, hi, rfl, hB⟩ := hrel
    by_cases hlt : i < L
    · have hil : i < l.length := by rw [unhide hL]; exact hlt
      obtain ⟨p, hp⟩ : ∃ p, l[i]? = some p := ⟨_, List.getElem?_eq_getElem hil⟩
      obtain ⟨b, so, c', e, hb, c0⟩ := unhide HU i p hp
      cases e
      obtain ⟨g, off, cap, e, hg, q0⟩ := unhide HV i p hp
      cases e
      have fd : Fr (fun _ => False) w wr := by obtain ⟨k, e⟩ := unhide hB; rw [e]; exact Fr.drewN k
      have lb := Nat.lt_of_lt_of_le hb fd.size
      have lg := Nat.lt_of_lt_of_le hg fd.size
      have k0 := (fd.cell (a := ⟨b, so + i, none⟩) hb (fun e => e)).trans c0
      have r0 := (fd.cell (a := ⟨g, off + i, none⟩) hg (fun e => e)).trans q0
      have i0 : (0 : Int) ≤ (i : Int) := by omega
      have i1 : (i : Int) < (L : Int) := by omega
      clear c0 q0 hp hb hg fd
      go_wp2_with fail
      go_quiet (fail)
      go_wp2_with fail
      go_roundg (gk - 1)
      case measure => have := unhide hi; omega
      case rel => exact ⟨i + 1, by have := unhide hi; unfold Hid; omega, by go_num, by obtain ⟨k, e⟩ := unhide hB; exact ⟨k + nq, by rw [e, World.drewN_drewN]⟩⟩
    · have hiL : i = L := by have := unhide hi; omega
      subst hiL
      obtain ⟨k, rfl⟩ := unhide hB
      go_wp2_with fail
      go_ret
      exact ⟨rfl, k, rfl⟩
/-- What Pick picks. -/
def pck (k n : Int) : Int := if k.tmod n < 0 then k.tmod n + n else k.tmod n
theorem pck_lt (k : Int) {n : Int} (hn : 1 ≤ n) : 0 ≤ pck k n ∧ pck k n < n := by
  have hlo : -n < k.tmod n := by have := Int.lt_tmod_of_pos k (show 0 < n by omega); exact this
  have hhi : k.tmod n < n := Int.tmod_lt_of_pos k (by omega)
  unfold pck
  split <;> omega
set_option maxRecDepth 100000 in
set_option maxHeartbeats 1600000 in
theorem pick_any (w : World) (k n : Int) (hn : 1 ≤ n) (hm : n ≤ 17592186044416) :
    Calls Try.prog 6 #[.int .i64 k, .int .i64 n] w fun e w' => e = .returned (.int .i64 (pck k n)) ∧ w' = w := by
  have h1 : ¬ n < 1 := by omega
  have h0 : ¬ n = 0 := by omega
  have hlo : -n < k.tmod n := by have := Int.lt_tmod_of_pos k (show 0 < n by omega); exact this
  have hhi : k.tmod n < n := Int.tmod_lt_of_pos k (by omega)
  go_enter Try.func6, Try.ntmps6
  by_cases hneg : k.tmod n < 0
  · have e : pck k n = k.tmod n + n := if_pos hneg
    rw [e]
    go_wp2_with fail
    go_ret
    exact ⟨rfl, rfl⟩
  · have e : pck k n = k.tmod n := if_neg hneg
    rw [e]
    go_wp2_with fail
    go_ret
    exact ⟨rfl, rfl⟩
end Go.Proofs.Ytpbgabokbcilmaa
