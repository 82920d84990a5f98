/-
  Rows of numbers, of texts, of values: copied, held against each other.
-/
import Derived.Test.YtfoanikkngmeiaaGen
namespace Go.Proofs.Ytfoanikkngmeiaa
open Go.RowKit
set_option linter.unusedVariables false
set_option linter.unusedSimpArgs false
/-- Does this hold? -/
noncomputable def Dc (p : Prop) : Bool := @decide p (Classical.propDecidable p)
theorem Dc_true {p : Prop} (h : p) : Dc p = true := by unfold Dc; exact @decide_eq_true p (Classical.propDecidable p) h
theorem Dc_false {p : Prop} (h : ¬ p) : Dc p = false := by unfold Dc; exact @decide_eq_false p (Classical.propDecidable p) h
theorem of_Dc {p : Prop} (h : Dc p = true) : p := by unfold Dc at h; exact @of_decide_eq_true p (Classical.propDecidable p) h
theorem not_Dc {p : Prop} (h : Dc p = false) : ¬ p := by unfold Dc at h; exact @of_decide_eq_false p (Classical.propDecidable p) h
theorem Dc_congr {p q : Prop} (h : p ↔ q) : Dc p = Dc q := by rw [propext h]
/-- An object; its own cells. -/
structure Ob where
  kind : Int
  its : List (Int × Int)
  keys : List Int
  fn : Int
  cap : Int
  shut : Bool
structure Obv where
  kind : Int
  iv : Value
  kv : Value
  fn : Int
  cap : Int
  shut : Bool
def enO (x : Obv) : List Value := [.int .i64 x.kind, x.iv, x.kv, .int .i64 x.fn, .int .i64 x.cap, .bool x.shut]
def enL (k : Int) : List Value := [.int .i64 k]
def enT (s : ByteArray) : List Value := [.string s]
def enV (v : Value) : List Value := [v]
theorem zO : ∀ p, (enO p).length = 6 := fun _ => rfl
theorem zL : ∀ p, (enL p).length = 1 := fun _ => rfl
theorem zT : ∀ p, (enT p).length = 1 := fun _ => rfl
theorem zV : ∀ p, (enV p).length = 1 := fun _ => rfl
/-- These cells are this object. -/
def ObV (w : World) (o : Ob) (x : Obv) : Prop :=
  x.kind = o.kind ∧ x.fn = o.fn ∧ x.cap = o.cap ∧ x.shut = o.shut ∧ Rx w 2 x.iv o.its.length (flt enI o.its) ∧ Rx w 1 x.kv o.keys.length (flt enL o.keys)
/-- An object by value. -/
def ObA (w : World) (v : Value) (o : Ob) : Prop :=
  ∃ iv kv, v = .agg #[.int .i64 o.kind, iv, kv, .int .i64 o.fn, .int .i64 o.cap, .bool o.shut] ∧ Rx w 2 iv o.its.length (flt enI o.its) ∧ Rx w 1 kv o.keys.length (flt enL o.keys)
/-- Objects that can be read. -/
def OsV (w : World) (v : Value) (os : List Ob) : Prop :=
  ∃ xs : List Obv, xs.length = os.length ∧ Rx w 6 v xs.length (flt enO xs) ∧ ∀ (i : Nat) (o : Ob) (x : Obv), os[i]? = some o → xs[i]? = some x → ObV w o x
theorem ObV.below {w w' : World} {o : Ob} {x : Obv} {B : Nat} (h : ObV w o x) (k : Below B w w') (hB : w.heap.size ≤ B) : ObV w' o x :=
  ⟨h.1, h.2.1, h.2.2.1, h.2.2.2.1, h.2.2.2.2.1.below k hB, h.2.2.2.2.2.below k hB⟩
theorem ObA.below {w w' : World} {v : Value} {o : Ob} {B : Nat} (h : ObA w v o) (k : Below B w w') (hB : w.heap.size ≤ B) : ObA w' v o := by
  obtain ⟨iv, kv, e, h1, h2⟩ := h
  exact ⟨iv, kv, e, h1.below k hB, h2.below k hB⟩
theorem OsV.below {w w' : World} {v : Value} {os : List Ob} {B : Nat} (h : OsV w v os) (k : Below B w w') (hB : w.heap.size ≤ B) : OsV w' v os := by
  obtain ⟨xs, h1, h2, h3⟩ := h
  exact ⟨xs, h1, h2.below k hB, fun i f x hf hx => (h3 i f x hf hx).below k hB⟩
theorem OsV.shape {w : World} {v : Value} {os : List Ob} (h : OsV w v os) : ∃ a cap, v = .slice a os.length cap ∧ os.length ≤ cap ∧ cap ≤ maxLen := by
  obtain ⟨xs, h1, ⟨_, a, cap, e, hl, hm, _⟩, _⟩ := h
  exact ⟨a, cap, by rw [e, h1], by omega, hm⟩
theorem Rx.shape {w : World} {sz : Nat} {v : Value} {n : Nat} {xs : List Value} (h : Rx w sz v n xs) : ∃ a cap, v = .slice a n cap ∧ n ≤ cap ∧ cap ≤ maxLen := by
  obtain ⟨_, a, cap, e, h1, h2, _⟩ := h
  exact ⟨a, cap, e, h1, h2⟩
theorem ObV.parts {w : World} {o : Ob} {x : Obv} (h : ObV w o x) : ∃ ia ic ka kc, x = ⟨o.kind, .slice ia o.its.length ic, .slice ka o.keys.length kc, o.fn, o.cap, o.shut⟩ ∧ o.its.length ≤ ic ∧ ic ≤ maxLen ∧ o.keys.length ≤ kc ∧ kc ≤ maxLen ∧ Rx w 2 (.slice ia o.its.length ic) o.its.length (flt enI o.its) ∧ Rx w 1 (.slice ka o.keys.length kc) o.keys.length (flt enL o.keys) := by
  obtain ⟨e1, e2, e3, e4, h1, h2⟩ := h
  obtain ⟨x1, x2, x3, x4, x5, x6⟩ := x
  simp only at e1 e2 e3 e4 h1 h2
  obtain ⟨ia, ic, rfl, i1, i2⟩ := h1.shape
  obtain ⟨ka, kc, rfl, k1, k2⟩ := h2.shape
  subst e1 e2 e3 e4
  exact ⟨ia, ic, ka, kc, rfl, i1, i2, k1, k2, h1, h2⟩
/-- One object's cells, told one by one. -/
theorem OsV.six {w : World} {a : Option Addr} {n cap : Nat} {os : List Ob} (h : OsV w (.slice a n cap) os) {i : Nat} {o : Ob} (ho : os[i]? = some o) :
    ∃ b off ia ic ka kc, a = some ⟨b, off, none⟩ ∧ b < w.heap.size ∧ w.cell? ⟨b, off + i * 6, none⟩ = some (.int .i64 o.kind) ∧ w.cell? ⟨b, off + i * 6 + 1, none⟩ = some (.slice ia o.its.length ic) ∧ w.cell? ⟨b, off + i * 6 + 2, none⟩ = some (.slice ka o.keys.length kc) ∧
      w.cell? ⟨b, off + i * 6 + 3, none⟩ = some (.int .i64 o.fn) ∧ w.cell? ⟨b, off + i * 6 + 4, none⟩ = some (.int .i64 o.cap) ∧ w.cell? ⟨b, off + i * 6 + 5, none⟩ = some (.bool o.shut) ∧
      Rx w 2 (.slice ia o.its.length ic) o.its.length (flt enI o.its) ∧ Rx w 1 (.slice ka o.keys.length kc) o.keys.length (flt enL o.keys) ∧ o.its.length ≤ ic ∧ ic ≤ maxLen ∧ o.keys.length ≤ kc ∧ kc ≤ maxLen := by
  obtain ⟨xs, h1, h2, h3⟩ := h
  have hi := (List.getElem?_eq_some_iff.1 ho).1
  have hx : xs[i]? = some (xs[i]'(by omega)) := List.getElem?_eq_getElem (by omega)
  obtain ⟨b, off, cap', e, _, _, hb, hc⟩ := h2.elem zO hx
  cases e
  obtain ⟨ia, ic, ka, kc, ex, i1, i2, k1, k2, r1, r2⟩ := (h3 i o _ ho hx).parts
  rw [ex] at hc
  exact ⟨b, off, ia, ic, ka, kc, rfl, hb, hc 0 _ rfl, hc 1 _ rfl, hc 2 _ rfl, hc 3 _ rfl, hc 4 _ rfl, hc 5 _ rfl, r1, r2, i1, i2, k1, k2⟩
theorem OsV.nil (w : World) : OsV w (.slice none 0 0) [] := ⟨[], rfl, by simpa [flt] using Rx.nil w 6, fun i o x h => by simp at h⟩
set_option linter.unusedVariables false
set_option linter.unusedSimpArgs false
theorem infL : (Try.prog.info? 2).map (fun i => (i.zero, i.size, i.bytes)) = some (some (.int .i64 0), 1, 8) := by kernel_rfl
theorem appL {w : World} {ops : Array Oper} {rest : List Oper} {o : Oper} {a : Act} {Q : Exit → Act → World → Prop}
    (hg : o.guard = none) (s x : Operand) (hop : o.op = Op.call { callee := Callee.builtin Builtin.append, args := #[s, x], argTypes := #[49, 49] })
    (v : Value) (l : List (Int)) (hs : a.eval s = v) (hr : Ro w 1 v l.length (flt enL l)) (ad : Addr) (c : Nat) (p : Int) (hx : a.eval x = .slice (some ad) 1 c) (hc : ∀ j u, (enL p)[j]? = some u → w.cell? (ad.add j) = some u)
    (hN : l.length ≤ 3000000000000)
    (hK : ∀ v' w', Ro w' 1 v' (l.length + 1) (flt enL l ++ enL p) → w.grownBy w' v.ownBlock → (v'.ownBlock = v.ownBlock ∨ v'.ownBlock = some w.heap.size) → wpList Try.prog ops Q rest (a.put o.dst v') w') :
    wpList Try.prog ops Q (o :: rest) a w := by
  obtain ⟨i0, hi0, hz0, hz1, hz2⟩ := info_parts infL
  exact wpList_app hg s x 49 hop 2 i0 _ 1 8 Try.underlying49 hi0 hz0 hz1 hz2 rfl (by decide) v l.length (flt enL l) hs hr ad 1 c (enL p) hx rfl hc (by simp [enL, Value.oneCell']) (by omega) (by unfold maxLen; omega) (by omega) hK
set_option maxRecDepth 100000 in
set_option maxHeartbeats 1600000 in
theorem copyL_any {w : World} {lv : Value} {l : List (Int)} (h : Rx w 1 lv l.length (flt enL l)) (hN : l.length ≤ 3000000000000) :
    Calls Try.prog 39 #[lv] w fun e w' => ∃ v', e = .returned v' ∧ Gx w 1 enL l v' w' := by
  have HC := hide (fun i p (hp : l[i]? = some p) => h.elem zL hp)
  obtain ⟨_, a, cap, rfl, hlc, hcm, _⟩ := h
  obtain ⟨L, hL⟩ : ∃ L, Hid (l.length = L) := ⟨_, rfl⟩
  rw [unhide hL] at hN hlc HC ⊢
  go_enter Try.func39, Try.ntmps39
  go_wp2_with fail
  go_loopg [3, 4] L (fun g t3 t4 wr => ∃ (i : Nat) (v : Value), Hid (i + g = L) ∧ t3 = v ∧ t4 = .int .i64 (i : Int) ∧ Hid (Gx w 1 enL (l.take i) v wr))
  case atStart => exact ⟨0, _, by unfold Hid; omega, rfl, rfl, ⟨by simpa [flt] using Ro.nil _ _, Below.refl _ _, by simp [Value.ownBlock]⟩⟩
  case round =>
    obtain ⟨i, v, hi, rfl, rfl, hG⟩ := hrel
    by_cases hlt : i < L
    · have hil : i < l.length := by rw [unhide hL]; exact hlt
      obtain ⟨p, hp⟩ : ∃ p, l[i]? = some p := ⟨_, List.getElem?_eq_getElem hil⟩
      obtain ⟨b, off, cap', e, _, _, hb, hcs⟩ := unhide HC i p hp
      cases e
      have hs := (unhide hG).2.1
      have k0 : wr.cell? ⟨b, off + i, none⟩ = some (.int .i64 p) := (hs.cell (p := ⟨b, off + i, none⟩) hb).trans (by have := hcs 0 _ rfl; rwa [Nat.mul_one, Nat.add_zero] at this)
      have hbr := Nat.lt_of_lt_of_le hb hs.size
      have i0 : (0 : Int) ≤ (i : Int) := by omega
      have i1 : (i : Int) < (L : Int) := by omega
      have htl : (l.take i).length = i := by simp; omega
      have HRo := hide (unhide hG).1
      have HP := hide hp
      clear hs hcs hp
      go_wp2_with (first | (at_builtin; refine appL rfl _ _ rfl _ (l.take i) rfl ((unhide HRo).keep (fun g hg => Below.heap_alloc _ _ _ ((unhide HRo).lt g hg))) ⟨wr.heap.size, 0, none⟩ 1 p rfl (new_cells _ _ _) (by rw [htl]; omega) ?_))
      intro v' w' hr hg hat
      have hG2 := (unhide hG).push hr (by rw [htl]) hg (by simpa using hat)
      rw [← take_push (unhide HP)] at hG2
      have HG2 := hide hG2
      clear hr hg hat hG2
      go_wp2_with fail
      go_roundg (gk - 1)
      case measure => have := unhide hi; omega
      case rel => exact ⟨i + 1, v', by have := unhide hi; unfold Hid; omega, rfl, by go_num, HG2⟩
    · have hiL : i = L := by have := unhide hi; omega
      subst hiL
      have hG0 := unhide hG
      rw [List.take_of_length_le (by rw [unhide hL]; exact Nat.le_refl _)] at hG0
      have HG0 := hide hG0
      clear hG hG0
      go_wp2_with fail
      go_ret
      exact ⟨_, rfl, unhide HG0⟩
end Go.Proofs.Ytfoanikkngmeiaa
