/-
  LentFrames: frames lent, with marks in their spare room.
-/
import Derived.Test.YtfcgpafjhifogaaSh
namespace Go.Proofs.Ytfcgpafjhifogaa
open Go.RowKit
set_option linter.unusedVariables false
set_option linter.unusedSimpArgs false
def cutM : Value → Nat → Value
  | .slice a _ c, n => .slice a n c
  | v, _ => v
def flM (ys : List Value) : List Fmv := ys.mapIdx fun i y => ⟨-7, (i : Int), y⟩
theorem flM_push (ys : List Value) (y : Value) : flM (ys ++ [y]) = flM ys ++ [⟨-7, (ys.length : Int), y⟩] := by simp [flM, List.mapIdx_append]
theorem flM_length (ys : List Value) : (flM ys).length = ys.length := by simp [flM]
theorem flM_at (ys : List Value) (i : Nat) (y : Value) (h : ys[i]? = some y) : (flM ys)[i]? = some ⟨-7, (i : Int), y⟩ := by simp [flM, h]
def mkM (n m : Nat) : List Fmv := (List.range m).map fun i => ⟨-7, ((n + i : Nat) : Int), .slice none 0 0⟩
theorem mkM_succ (n m : Nat) : mkM n (m + 1) = mkM n m ++ [⟨-7, ((n + m : Nat) : Int), .slice none 0 0⟩] := by simp [mkM, List.range_succ]
theorem mkM_length (n m : Nat) : (mkM n m).length = m := by simp [mkM]
def hdM (fs : List Fm) (ys : List Value) : List Fmv := List.zipWith (fun f y => ⟨f.fn, f.pc, cutM y f.sl.length⟩) fs ys
/-- Rows of slots of one's own, beside the row of frames v. -/
structure LR (B : Nat) (w : World) (v : Value) (gs : List (List (Int × Int))) (ys : List Value) : Prop where
  len : ys.length = gs.length
  el : ∀ (i : Nat) (l : List (Int × Int)) (y : Value), gs[i]? = some l → ys[i]? = some y → Ro w 2 y l.length (flt enI l)
  eb : ∀ (i : Nat) (y : Value) (k : Nat), ys[i]? = some y → y.ownBlock = some k → B ≤ k ∧ v.ownBlock ≠ some k
  ap : ∀ (i j : Nat) (y z : Value) (k : Nat), i < j → ys[i]? = some y → ys[j]? = some z → y.ownBlock = some k → z.ownBlock ≠ some k
section
variable {B : Nat} {w w' : World} {v v' : Value} {gs : List (List (Int × Int))} {ys : List Value}
theorem LR.nil (B : Nat) (w : World) (v : Value) : LR B w v [] [] := ⟨rfl, fun i l y h => by simp at h, fun i y k h => by simp at h, fun i j y z k _ h => by simp at h⟩
theorem LR.lt (h : LR B w v gs ys) {i : Nat} {y : Value} {k : Nat} (hy : ys[i]? = some y) (hk : y.ownBlock = some k) : k < w.heap.size := by
  have hi := (List.getElem?_eq_some_iff.1 hy).1
  have hl := h.len
  exact (h.el i _ y (List.getElem?_eq_getElem (by omega)) hy).lt k hk
theorem LR.move (h : LR B w v gs ys) (f : Fr (fun k => v.ownBlock = some k) w w') (hat : ∀ k, v'.ownBlock = some k → v.ownBlock = some k ∨ w.heap.size ≤ k) : LR B w' v' gs ys :=
  ⟨h.len, fun i l y hl hy => (h.el i l y hl hy).fr f (fun k hk e => (h.eb i y k hy hk).2 e), fun i y k hy hk => ⟨(h.eb i y k hy hk).1, fun e => by
    rcases hat k e with r | r
    · exact (h.eb i y k hy hk).2 r
    · have := h.lt hy hk; omega⟩, h.ap⟩
theorem LR.add (h : LR B w v gs ys) {l : List (Int × Int)} {y : Value} (hg : Gx w 2 enI l y w') (hB : B ≤ w.heap.size) (hv : ∀ k, v.ownBlock = some k → k < w.heap.size) : LR B w' v (gs ++ [l]) (ys ++ [y]) := by
  have hl := h.len
  have f : Fr (fun _ => False) w w' := Fr.of_below hg.2.1
  refine ⟨by simp [hl], fun i g z hz hy => ?_, fun i z k hz hk => ?_, fun i j z u k hij hz hu hk => ?_⟩
  · by_cases q : i < gs.length
    · rw [List.getElem?_append_left q] at hz
      rw [List.getElem?_append_left (by omega)] at hy
      exact (h.el i g z hz hy).fr f (fun _ _ e => e)
    · have hi : i = gs.length := by have := (List.getElem?_eq_some_iff.1 hz).1; simp at this; omega
      subst hi
      rw [List.getElem?_append_right (Nat.le_refl _), Nat.sub_self] at hz
      rw [List.getElem?_append_right (by omega), hl, Nat.sub_self] at hy
      cases hz; cases hy
      exact hg.1
  · by_cases q : i < ys.length
    · rw [List.getElem?_append_left q] at hz
      exact h.eb i z k hz hk
    · have hi : i = ys.length := by have := (List.getElem?_eq_some_iff.1 hz).1; simp at this; omega
      subst hi
      rw [List.getElem?_append_right (Nat.le_refl _), Nat.sub_self] at hz
      cases hz
      have := hg.2.2 k hk
      exact ⟨by omega, fun e => by have := hv k e; omega⟩
  · have hjl := (List.getElem?_eq_some_iff.1 hu).1
    simp at hjl
    rw [List.getElem?_append_left (by omega)] at hz
    by_cases q : j < ys.length
    · rw [List.getElem?_append_left q] at hu
      exact h.ap i j z u k hij hz hu hk
    · obtain rfl : j = ys.length := by omega
      rw [List.getElem?_append_right (Nat.le_refl _), Nat.sub_self] at hu
      cases hu
      intro e
      have := h.lt hz hk
      have := hg.2.2 k e
      omega
end
/-- Frames as they were lent. -/
structure LF (B : Nat) (w : World) (g off cap : Nat) (fs : List Fm) (ys : List Value) : Prop where
  row : Ro w 3 (.slice (some ⟨g, off, none⟩) (fs.length + fs.length + 64) cap) (fs.length + fs.length + 64) (flt enM (hdM fs ys ++ (flM ys ++ mkM fs.length 64)))
  lr : LR B w (.slice (some ⟨g, off, none⟩) (fs.length + fs.length + 64) cap) (fs.map fun f => f.sl ++ mkV 64) ys
  gb : B ≤ g
/-- The row so far: some frames, the full lists, marks. -/
def LS (B : Nat) (w : World) (v : Value) (pre : List Fmv) (gs : List (List (Int × Int))) (ys : List Value) (post : List Fmv) : Prop :=
  Ro w 3 v (pre ++ (flM ys ++ post)).length (flt enM (pre ++ (flM ys ++ post))) ∧ LR B w v gs ys ∧ (∀ k, v.ownBlock = some k → B ≤ k) ∧ B ≤ w.heap.size
theorem LS.grow {B : Nat} {w w' : World} {v v' : Value} {pre pre' : List Fmv} {gs : List (List (Int × Int))} {ys : List Value} {post post' : List Fmv} (h : LS B w v pre gs ys post) (f : Fr (fun k => v.ownBlock = some k) w w') (hr : Ro w' 3 v' (pre' ++ (flM ys ++ post')).length (flt enM (pre' ++ (flM ys ++ post')))) (hat : ∀ k, v'.ownBlock = some k → v.ownBlock = some k ∨ w.heap.size ≤ k) : LS B w' v' pre' gs ys post' ∧ Below B w w' :=
  ⟨⟨hr, h.2.1.move f hat, fun k hk => by
    rcases hat k hk with r | r
    · exact h.2.2.1 k r
    · exact Nat.le_trans h.2.2.2 r, Nat.le_trans h.2.2.2 f.size⟩, f.below h.2.2.2 (fun k hk e => by have := h.2.2.1 k e; omega)⟩
theorem LS.app {B : Nat} {w w1 w' : World} {v v' : Value} {pre pre' : List Fmv} {gs : List (List (Int × Int))} {ys : List Value} {post post' : List Fmv} {p : Fmv} {X : Obj} {m : Nat} (h : LS B w v pre gs ys post) (hb : Below w.heap.size w w1) (hr : Ro w' 3 v' m (flt enM (pre ++ (flM ys ++ post)) ++ enM p)) (hm : m = (pre ++ (flM ys ++ post)).length + 1) (hg : (w1.alloc X).grownBy w' v.ownBlock) (hat : v'.ownBlock = v.ownBlock ∨ v'.ownBlock = some (w1.heap.size + 1)) (he : pre' ++ (flM ys ++ post') = (pre ++ (flM ys ++ post)) ++ [p]) : LS B w' v' pre' gs ys post' ∧ Below B w w' := by
  have f : Fr (fun k => v.ownBlock = some k) w w' := (((Fr.of_below hb).alloc X)).grown hg (fun k e => .inr e)
  refine h.grow f (by rw [he, flt_append, flt_one, List.length_append, List.length_singleton, ← hm]; exact hr) (fun k hk => ?_)
  rcases hat with r | r
  · exact .inl (r ▸ hk)
  · rw [r] at hk; cases hk; right; have := hb.size; omega
theorem LS.addY {B : Nat} {w w1 w' : World} {v v' : Value} {pre : List Fmv} {gs : List (List (Int × Int))} {ys : List Value} {l : List (Int × Int)} {y : Value} {X : Obj} {m : Nat} (h : LS B w v pre gs ys []) (hg1 : Gx w 2 enI l y w1) (hr : Ro w' 3 v' m (flt enM (pre ++ (flM ys ++ [])) ++ enM ⟨-7, (ys.length : Int), y⟩)) (hm : m = (pre ++ (flM ys ++ [])).length + 1) (hg : (w1.alloc X).grownBy w' v.ownBlock) (hat : v'.ownBlock = v.ownBlock ∨ v'.ownBlock = some (w1.heap.size + 1)) : LS B w' v' pre (gs ++ [l]) (ys ++ [y]) [] ∧ Below B w w' := by
  have hlr := h.2.1.add hg1 h.2.2.2 h.1.lt
  have f : Fr (fun k => v.ownBlock = some k) w1 w' := ((Fr.refl _ w1).alloc X).grown hg (fun k e => .inr e)
  have hs := hg1.2.1.size
  have hown : ∀ k, v'.ownBlock = some k → v.ownBlock = some k ∨ w1.heap.size ≤ k := fun k hk => by
    rcases hat with r | r
    · exact .inl (r ▸ hk)
    · rw [r] at hk; cases hk; right; omega
  refine ⟨⟨?_, hlr.move f hown, fun k hk => ?_, ?_⟩, (hg1.2.1.mono h.2.2.2).trans (f.below (Nat.le_trans h.2.2.2 hs) (fun k hk e => by have := h.2.2.1 k e; omega))⟩
  · have e : pre ++ (flM (ys ++ [y]) ++ []) = (pre ++ (flM ys ++ [])) ++ [⟨-7, (ys.length : Int), y⟩] := by rw [flM_push]; simp
    rw [e, flt_append, flt_one, List.length_append, List.length_singleton, ← hm]
    exact hr
  · rcases hown k hk with r | r
    · exact h.2.2.1 k r
    · have := h.2.2.2; omega
  · have := h.2.2.2; have := f.size; omega
/-- What LentFrames answers. -/
def LfP (w : World) (fs : List Fm) (e : Ending) (w' : World) : Prop := ∃ g off cap ys, e = .returned (.slice (some ⟨g, off, none⟩) fs.length cap) ∧ LF w.heap.size w' g off cap fs ys ∧ Below w.heap.size w w' ∧ fs.length + fs.length + 64 ≤ cap ∧ cap ≤ maxLen
/-- One cell of one frame is set. -/
theorem Ro.setM {w : World} {g off n cap m d : Nat} {zs : List Fmv} {x z : Fmv} {u : Value} (h : Ro w 3 (.slice (some ⟨g, off, none⟩) n cap) n (flt enM zs)) (hl : zs.length = n) (hx : zs[m]? = some x) (hd : d < 3) (hz : ∀ e, e < 3 → (enM z)[e]? = if e = d then some u else (enM x)[e]?) :
    Ro (w.setCell ⟨g, off + m * 3 + d, none⟩ u) 3 (.slice (some ⟨g, off, none⟩) n cap) n (flt enM (zs.set m z)) ∧ Fr (fun k => k = g) w (w.setCell ⟨g, off + m * 3 + d, none⟩ u) ∧ (∃ o, w.cell? ⟨g, off + m * 3 + d, none⟩ = some o) ∧ w.frozen? ⟨g, off + m * 3 + d, none⟩ = false := by
  have hm := (List.getElem?_eq_some_iff.1 hx).1
  obtain ⟨_, _, e0, hcap, _⟩ := h.shape
  cases e0
  have hc3 : n * 3 ≤ cap * 3 := Nat.mul_le_mul_right _ hcap
  obtain ⟨s1, s2⟩ := h.sets (v := .slice (some ⟨g, off, none⟩) n cap) rfl (o := off + m * 3 + d) (m := n) (vs := [u]) (ys := flt enM (zs.set m z)) (by omega) (by simp; omega) hcap (by rw [flt_length zM, List.length_set, hl]) (fun j hj => by
    rw [flt_set zM zs m z (by omega)]
    simp only [List.length_cons, List.length_nil]
    by_cases q : m * 3 ≤ j ∧ j < m * 3 + 3
    · rw [if_pos q]
      obtain ⟨e, he⟩ : ∃ e, j = m * 3 + e := ⟨j - m * 3, by omega⟩
      subst he
      rw [Nat.add_sub_cancel_left, hz e (by omega)]
      by_cases q2 : e = d
      · subst q2
        rw [if_pos rfl, if_pos (by omega), show off + (m * 3 + e) - (off + m * 3 + e) = 0 by omega]
        rfl
      · rw [if_neg q2, if_neg (by omega), flt_at zM hx e (by omega)]
    · rw [if_neg q, if_neg (by omega)]) (fun j hj q => by omega)
  refine ⟨s1, (Fr.refl (fun k => k = g) w).setCell ⟨g, off + m * 3 + d, none⟩ (.inr rfl) u, ?_, h.free rfl _⟩
  obtain ⟨g', off', cap', e, _, _, _, hc⟩ := h.full (by omega)
  cases e
  have := hc (m * 3 + d) (by omega)
  rw [← Nat.add_assoc] at this
  rw [this, List.getElem?_eq_getElem (by rw [flt_length zM]; omega)]
  exact ⟨_, rfl⟩
theorem hdM_at {fs : List Fm} {ys : List Value} {i : Nat} {f : Fm} {y : Value} (hf : fs[i]? = some f) (hy : ys[i]? = some y) : (hdM fs ys)[i]? = some ⟨f.fn, f.pc, cutM y f.sl.length⟩ := by
  unfold hdM
  rw [List.getElem?_zipWith, hf, hy]
theorem hdM_length {fs : List Fm} {ys : List Value} (h : ys.length = fs.length) : (hdM fs ys).length = fs.length := by unfold hdM; rw [List.length_zipWith, h, Nat.min_self]
set_option maxRecDepth 100000 in
set_option maxHeartbeats 6400000 in
theorem lentM_any {w : World} {lv : Value} {fs : List Fm} (h : FsV w lv fs) (hN : fs.length ≤ 1048576) (hS : ∀ f ∈ fs, f.sl.length ≤ 1048576) :
    Calls Try.prog 17 #[lv] w (LfP w fs) := by
  obtain ⟨a, cap, rfl, hlc, hcm⟩ := h.shape
  have HH := hide h
  obtain ⟨xs, hxl, hxr, hxe⟩ := h
  obtain ⟨L, hL⟩ : ∃ L, Hid (fs.length = L) := ⟨_, hide rfl⟩
  rw [unhide hL] at hN hlc HH ⊢
  unfold maxLen at hcm
  have HS := hide hS
  have HXL : Hid (xs.length = L) := by rw [hxl]; exact unhide hL
  have HXC := hide (fun i p (hp : xs[i]? = some p) => Rx.elem zM hxr hp)
  have HXS : Hid (∀ (i : Nat) (p : Fmv), xs[i]? = some p → ∃ a n c, p.sv = Value.slice a n c) := fun i p hp => by
    have hi := (List.getElem?_eq_some_iff.1 hp).1
    obtain ⟨_, _, ⟨_, a, c, e, _⟩⟩ := hxe i _ p (List.getElem?_eq_getElem (by omega)) hp
    exact ⟨a, _, c, e⟩
  have HXF : Hid (∀ (i : Nat) (f : Fm) (x : Fmv), fs[i]? = some f → xs[i]? = some x → x.fn = f.fn ∧ x.pc = f.pc) := fun i f x hf hx => ⟨(hxe i f x hf hx).1, (hxe i f x hf hx).2.1⟩
  clear hS hxr hxe hxl
  go_enter Try.func17, Try.ntmps17
  go_wp2_with fail
  go_loopg [4, 5] L (fun g t4 t5 wr => ∃ (i : Nat) (v : Value), Hid (i + g = L) ∧ t4 = v ∧ t5 = .int .i64 (i : Int) ∧ Hid (LS w.heap.size wr v (xs.take i) [] [] [] ∧ Below w.heap.size w wr))
  case atStart => exact ⟨0, _, by unfold Hid; omega, rfl, rfl, ⟨by simpa [flt, flM] using Ro.nil w 3, LR.nil _ _ _, by simp [Value.ownBlock], Nat.le_refl _⟩, Below.refl _ _⟩
  case round =>
    obtain ⟨i, v, hi, e4, rfl, hG⟩ := hrel
    have htl : (xs.take i ++ (flM [] ++ [])).length = i := by have := unhide hi; have := unhide HXL; simp [flM]; omega
    obtain ⟨va, vc, ev, hvc, hvm⟩ := (unhide hG).1.1.shape
    rw [htl] at ev hvc
    rw [ev] at e4
    subst e4
    subst ev
    by_cases hlt : i < L
    · obtain ⟨p, hp⟩ : ∃ p, xs[i]? = some p := ⟨_, List.getElem?_eq_getElem (by rw [unhide HXL]; exact hlt)⟩
      obtain ⟨b, off, c', e, _, _, hb, hcs⟩ := unhide HXC i p hp
      rw [unhide HXL, unhide hL] at e
      cases e
      obtain ⟨pa, pn, pc, ep⟩ := unhide HXS i p hp
      have bw := (unhide hG).2
      have k0 := (bw.cell (p := ⟨b, off + i * 3 + 0, none⟩) hb).trans (hcs 0 _ rfl)
      have k1 := (bw.cell (p := ⟨b, off + i * 3 + 1, none⟩) hb).trans (hcs 1 _ rfl)
      have k2 := (bw.cell (p := ⟨b, off + i * 3 + 2, none⟩) hb).trans (hcs 2 _ rfl)
      rw [Nat.add_zero] at k0
      rw [ep] at k2
      have hbr := Nat.lt_of_lt_of_le hb bw.size
      have i0 : (0 : Int) ≤ (i : Int) := by omega
      have i1 : (i : Int) < (L : Int) := by omega
      obtain ⟨zs, hzs⟩ : ∃ zs, Hid (xs.take i ++ (flM [] ++ []) = zs) := ⟨_, hide rfl⟩
      have HRo : Hid (∀ O, Ro (wr.alloc O) 3 (.slice va i vc) i (flt enM zs)) := fun O => by
        have := (unhide hG).1.1.fr ((Fr.refl (fun _ => False) wr).alloc O) (fun _ _ e => e)
        rw [htl, unhide hzs] at this
        exact this
      have HP := hide hp
      have HEP := hide ep
      have HTL := hide htl
      obtain ⟨pf, hpf⟩ : ∃ v, Hid (p.fn = v) := ⟨_, hide rfl⟩
      obtain ⟨pp, hpp⟩ : ∃ v, Hid (p.pc = v) := ⟨_, hide rfl⟩
      rw [unhide hpf] at k0
      rw [unhide hpp] at k1
      clear hcs bw hp htl ep hb
      go_wp2_with (first | (at_builtin; refine appM rfl _ _ rfl _ i zs rfl (unhide HRo _) ⟨wr.heap.size, 0, none⟩ 1 ⟨pf, pp, .slice pa pn pc⟩ rfl (new_cells _ _ _) rfl (by omega) ?_))
      intro v' w2 hr hg hat
      obtain ⟨hls, hbw⟩ := (unhide hG).1.app (Below.refl _ wr) (pre' := xs.take (i + 1)) (post' := []) (by rw [unhide hzs]; exact hr) (by rw [unhide HTL]) hg (by simpa using hat) (by
        rw [take_push (unhide HP)]
        have : p = ⟨pf, pp, .slice pa pn pc⟩ := by obtain ⟨q1, q2, q3⟩ := p; simp only at *; rw [← unhide HEP, ← unhide hpf, ← unhide hpp]
        simp [flM, this])
      have HN : Hid (LS w.heap.size w2 v' (xs.take (i + 1)) [] [] [] ∧ Below w.heap.size w w2) := ⟨hls, (unhide hG).2.trans hbw⟩
      clear hr hg hat hls hbw
      go_wp2_with fail
      go_roundg (gk - 1)
      case measure => have := unhide hi; omega
      case rel => exact ⟨i + 1, v', by have := unhide hi; unfold Hid; omega, rfl, by go_num, HN⟩
    · have hiL : L = i := by have := unhide hi; omega
      subst hiL
      have HG0 : Hid (LS w.heap.size wr (.slice va L vc) xs [] [] [] ∧ Below w.heap.size w wr) := by
        have := unhide hG
        rw [List.take_of_length_le (by rw [unhide HXL]; exact Nat.le_refl _)] at this
        exact this
      clear hG
      go_wp2_with fail
      go_loopg [4, 6] L (fun g t4 t6 wr => ∃ (i : Nat) (v : Value) (ys : List Value), Hid (i + g = L) ∧ t4 = v ∧ t6 = .int .i64 (i : Int) ∧ Hid (LS w.heap.size wr v xs ((fs.take i).map fun f => f.sl ++ mkV 64) ys [] ∧ Below w.heap.size w wr))
      case atStart => exact ⟨0, _, [], by unfold Hid; omega, rfl, rfl, by unfold Hid; simpa using unhide HG0⟩
      case round =>
        clear HG0 hvc hvm
        obtain ⟨i, v, ys, hi, e4, rfl, hG⟩ := hrel
        have hyl : ys.length = i := by have h1 := (unhide hG).1.2.1.len; rw [List.length_map, List.length_take, unhide hL] at h1; have := unhide hi; omega
        have htl : (xs ++ (flM ys ++ [])).length = L + i := by rw [List.append_nil, List.length_append, flM_length, unhide HXL, hyl]
        obtain ⟨va, vc, ev, hvc, hvm⟩ := (unhide hG).1.1.shape
        rw [htl] at ev hvc
        rw [ev] at e4
        subst e4
        subst ev
        by_cases hlt : i < L
        · obtain ⟨f, hf⟩ : ∃ f, fs[i]? = some f := ⟨_, List.getElem?_eq_getElem (by rw [unhide hL]; exact hlt)⟩
          obtain ⟨b, off, sa, sc, ea, hb, k0, k1, k2, hx, hsl, hsm⟩ := ((unhide HH).below (unhide hG).2 (Nat.le_refl _)).three hf
          cases ea
          have hfS := unhide HS f (List.mem_of_getElem? hf)
          obtain ⟨fl, hfl⟩ : ∃ n, Hid (f.sl.length = n) := ⟨_, hide rfl⟩
          rw [unhide hfl] at k2 hfS
          have HC10 : Hid (Calls Try.prog 10 #[.slice sa fl sc] wr fun e w' => ∃ v', e = .returned v' ∧ Gx wr 2 enI (f.sl ++ mkV 64) v' w') := lentV_any (by rw [← unhide hfl]; exact hx) (by have := unhide hfl; omega)
          have i0 : (0 : Int) ≤ (i : Int) := by omega
          have i1 : (i : Int) < (L : Int) := by omega
          have HF := hide hf
          have HYL := hide hyl
          have HTL := hide htl
          clear hx hf k0 k1 hsl hsm hyl htl
          go_wp2_with fail
          refine (unhide HC10).mono ?_
          rintro e w1 ⟨y, rfl, hg1⟩
          obtain ⟨ya, yc, ey, _⟩ := hg1.1.shape
          subst ey
          obtain ⟨yl, hyl2⟩ : ∃ n, Hid ((f.sl ++ mkV 64).length = n) := ⟨_, hide rfl⟩
          have hg1' : Gx wr 2 enI (f.sl ++ mkV 64) (.slice ya yl yc) w1 := by rw [← unhide hyl2]; exact hg1
          rw [unhide hyl2]
          have HG1 := hide hg1'
          obtain ⟨zs, hzs⟩ : ∃ zs, Hid (xs ++ (flM ys ++ []) = zs) := ⟨_, hide rfl⟩
          have HRo : Hid (∀ O, Ro (w1.alloc O) 3 (.slice va (L + i) vc) (L + i) (flt enM zs)) := fun O => by
            have := (unhide hG).1.1.fr ((Fr.of_below (S := fun _ => False) hg1.2.1).alloc O) (fun _ _ e => e)
            rw [unhide HTL, unhide hzs] at this
            exact this
          clear hg1 hg1' HC10 k2
          go_wp2_with (first | (at_builtin; refine appM rfl _ _ rfl _ (L + i) zs rfl (unhide HRo _) ⟨w1.heap.size, 0, none⟩ 1 ⟨-7, (i : Int), .slice ya yl yc⟩ rfl (new_cells _ _ _) rfl (by omega) ?_))
          intro v' w2 hr hg hat
          obtain ⟨hls, hbw⟩ := (unhide hG).1.addY (unhide HG1) (by rw [unhide HYL, unhide hzs]; exact hr) (by rw [unhide HTL]) hg (by simpa using hat)
          have HN : Hid (LS w.heap.size w2 v' xs ((fs.take (i + 1)).map fun f => f.sl ++ mkV 64) (ys ++ [.slice ya yl yc]) [] ∧ Below w.heap.size w w2) := by
            rw [take_push (unhide HF), List.map_append]
            exact ⟨hls, (unhide hG).2.trans hbw⟩
          clear hr hg hat hls hbw
          go_wp2_with fail
          go_roundg (gk - 1)
          case measure => have := unhide hi; omega
          case rel => exact ⟨i + 1, v', _, by have := unhide hi; unfold Hid; omega, rfl, by go_num, HN⟩
        · have hiL : L = i := by have := unhide hi; omega
          subst hiL
          have HYL := hide hyl
          have HG0 : Hid (LS w.heap.size wr (.slice va (L + L) vc) xs (fs.map fun f => f.sl ++ mkV 64) ys [] ∧ Below w.heap.size w wr) := by
            have := unhide hG
            rw [List.take_of_length_le (by rw [unhide hL]; exact Nat.le_refl _)] at this
            exact this
          clear hG hyl htl
          go_wp2_with fail
          go_loopg [4, 7] 64 (fun g t4 t7 wr => ∃ (i : Nat) (v : Value), Hid (i + g = 64) ∧ t4 = v ∧ t7 = .int .i64 (i : Int) ∧ Hid (LS w.heap.size wr v xs (fs.map fun f => f.sl ++ mkV 64) ys (mkM L i) ∧ Below w.heap.size w wr))
          case atStart => exact ⟨0, _, by unfold Hid; omega, rfl, rfl, by unfold Hid; simpa [mkM] using unhide HG0⟩
          case round =>
            clear HG0 hvc hvm
            obtain ⟨i, v, hi, e4, rfl, hG⟩ := hrel
            have htl : (xs ++ (flM ys ++ mkM L i)).length = L + L + i := by rw [List.length_append, List.length_append, flM_length, mkM_length, unhide HXL, unhide HYL]; omega
            obtain ⟨va, vc, ev, hvc, hvm⟩ := (unhide hG).1.1.shape
            rw [htl] at ev hvc
            rw [ev] at e4
            subst e4
            subst ev
            have HTL := hide htl
            clear htl
            by_cases hlt : i < 64
            · have j1 : (i : Int) < 64 := by omega
              have ewn : IntKind.i64.wrap ((L : Int) + (i : Int)) = (L : Int) + (i : Int) := by go_arith
              obtain ⟨zs, hzs⟩ : ∃ zs, Hid (xs ++ (flM ys ++ mkM L i) = zs) := ⟨_, hide rfl⟩
              have HRo : Hid (∀ O, Ro (wr.alloc O) 3 (.slice va (L + L + i) vc) (L + L + i) (flt enM zs)) := fun O => by
                have := (unhide hG).1.1.fr ((Fr.refl (fun _ => False) wr).alloc O) (fun _ _ e => e)
                rw [unhide HTL, unhide hzs] at this
                exact this
              go_wp2_with (first | (at_builtin; refine appM rfl _ _ rfl _ (L + L + i) zs rfl (unhide HRo _) ⟨wr.heap.size, 0, none⟩ 1 ⟨-7, (L : Int) + (i : Int), .slice none 0 0⟩ rfl (new_cells _ _ _) rfl (by omega) ?_))
              intro v' w2 hr hg hat
              obtain ⟨hls, hbw⟩ := (unhide hG).1.app (Below.refl _ wr) (pre' := xs) (post' := mkM L (i + 1)) (by rw [unhide hzs]; exact hr) (by rw [unhide HTL]) hg (by simpa using hat) (by rw [mkM_succ]; simp)
              have HN : Hid (LS w.heap.size w2 v' xs (fs.map fun f => f.sl ++ mkV 64) ys (mkM L (i + 1)) ∧ Below w.heap.size w w2) := ⟨hls, (unhide hG).2.trans hbw⟩
              clear hr hg hat hls hbw
              go_wp2_with fail
              go_roundg (gk - 1)
              case measure => have := unhide hi; omega
              case rel => exact ⟨i + 1, v', by have := unhide hi; unfold Hid; omega, rfl, by go_num, HN⟩
            · have hi64 : 64 = i := by have := unhide hi; omega
              subst hi64
              obtain ⟨g, off, cp, ega, _, _, gl, _⟩ := (unhide hG).1.1.full (by rw [unhide HTL]; omega)
              rw [unhide HTL] at ega
              cases ega
              have HG0 := hG
              clear hG
              go_wp2_with fail
              go_loopg [8] L (fun gg t8 wr => ∃ (i : Nat), Hid (i + gg = L) ∧ t8 = .int .i64 (i : Int) ∧ Hid (LS w.heap.size wr (.slice (some ⟨g, off, none⟩) (L + L + 64) vc) ((hdM fs ys).take i ++ xs.drop i) (fs.map fun f => f.sl ++ mkV 64) ys (mkM L 64) ∧ Below w.heap.size w wr))
              case atStart => exact ⟨0, by unfold Hid; omega, rfl, by unfold Hid; simpa using unhide HG0⟩
              case round =>
                clear HG0 gl
                obtain ⟨i, hi, rfl, hG⟩ := hrel
                have hhl : (hdM fs ys).length = L := by rw [hdM_length (by rw [unhide HYL, unhide hL]), unhide hL]
                by_cases hlt : i < L
                · obtain ⟨f, hf⟩ : ∃ f, fs[i]? = some f := ⟨_, List.getElem?_eq_getElem (by rw [unhide hL]; exact hlt)⟩
                  obtain ⟨y, hy⟩ : ∃ y, ys[i]? = some y := ⟨_, List.getElem?_eq_getElem (by rw [unhide HYL]; exact hlt)⟩
                  obtain ⟨x, hx⟩ : ∃ x, xs[i]? = some x := ⟨_, List.getElem?_eq_getElem (by rw [unhide HXL]; exact hlt)⟩
                  obtain ⟨zs, hzs⟩ : ∃ zs, Hid (((hdM fs ys).take i ++ xs.drop i) ++ (flM ys ++ mkM L 64) = zs) := ⟨_, hide rfl⟩
                  have hpl : ((hdM fs ys).take i ++ xs.drop i).length = L := by rw [List.length_append, List.length_take, List.length_drop, hhl, unhide HXL]; omega
                  have hzl : zs.length = L + L + 64 := by rw [← unhide hzs, List.length_append, hpl, List.length_append, flM_length, mkM_length, unhide HYL]; omega
                  have hpi : ((hdM fs ys).take i ++ xs.drop i)[i]? = some x := by rw [List.getElem?_append_right (by rw [List.length_take]; omega), List.length_take, Nat.min_eq_left (by omega), Nat.sub_self, List.getElem?_drop, Nat.add_zero]; exact hx
                  have hzi : zs[i]? = some x := by rw [← unhide hzs, List.getElem?_append_left (by omega)]; exact hpi
                  have hzL : zs[L + i]? = some ⟨-7, (i : Int), y⟩ := by rw [← unhide hzs, List.getElem?_append_right (by omega), hpl, show L + i - L = i by omega, List.getElem?_append_left (by rw [flM_length, unhide HYL]; exact hlt)]; exact flM_at ys i y hy
                  have hrow : Ro wr 3 (.slice (some ⟨g, off, none⟩) (L + L + 64) vc) (L + L + 64) (flt enM zs) := by have h1 := (unhide hG).1.1; rw [unhide hzs, hzl] at h1; exact h1
                  obtain ⟨b1, o1, c1, eb1, _, _, lb1, hc1⟩ := Rx.elem zM (by have := Rx.of_ro hrow; rw [← hzl] at this; exact this) hzL
                  rw [hzl] at eb1
                  cases eb1
                  have y2 := hc1 2 _ rfl
                  have hely := (unhide hG).1.2.1.el i (f.sl ++ mkV 64) y (by rw [List.getElem?_map, hf]; rfl) hy
                  obtain ⟨ya, yc, ey, hyc, hym⟩ := hely.shape
                  obtain ⟨fl, hfl⟩ : ∃ n, Hid (f.sl.length = n) := ⟨_, hide rfl⟩
                  have hyl' : (f.sl ++ mkV 64).length = fl + 64 := by rw [lmV_length, unhide hfl]
                  rw [hyl'] at ey hyc
                  subst ey
                  obtain ⟨b, off', sa, sc, ea, hb, k0, k1, k2, hxx, hsl, hsm⟩ := ((unhide HH).below (unhide hG).2 (Nat.le_refl _)).three hf
                  cases ea
                  rw [unhide hfl] at k2
                  obtain ⟨xf1, xf2⟩ := unhide HXF i f x hf hx
                  obtain ⟨s1, s2, ⟨u0, s3⟩, s4⟩ := hrow.setM (d := 2) (z := ⟨f.fn, f.pc, .slice ya fl yc⟩) (u := .slice ya fl yc) hzl hzi (by omega) (fun e he => by
                    match e, he with
                    | 0, _ => simp [enM, xf1]
                    | 1, _ => simp [enM, xf2]
                    | 2, _ => rfl)
                  have hbw : b < w.heap.size := by
                    obtain ⟨_, _, e5, _, _, hat⟩ := (unhide HH).at
                    obtain ⟨b', o', _, e6, h7, _⟩ := hat i f hf
                    cases e5; cases e6; exact h7
                  have hgw : w.heap.size ≤ g := (unhide hG).1.2.2.1 g rfl
                  have hgl : g < wr.heap.size := hrow.lt g rfl
                  have hset : zs.set i ⟨f.fn, f.pc, .slice ya fl yc⟩ = ((hdM fs ys).take (i + 1) ++ xs.drop (i + 1)) ++ (flM ys ++ mkM L 64) := by
                    rw [← unhide hzs, List.set_append_left _ _ (by omega)]
                    congr 1
                    have hh : (hdM fs ys)[i]? = some ⟨f.fn, f.pc, .slice ya fl yc⟩ := by rw [hdM_at hf hy]; simp only [cutM, unhide hfl]
                    rw [take_push hh, List.append_assoc, List.set_append_right _ _ (by rw [List.length_take]; omega), List.length_take, Nat.min_eq_left (by omega), Nat.sub_self]
                    congr 1
                    have hd : xs.drop i = x :: xs.drop (i + 1) := by
                      obtain ⟨h1, h2⟩ := List.getElem?_eq_some_iff.1 hx
                      rw [List.drop_eq_getElem_cons h1, h2]
                    rw [hd]
                    rfl
                  have HN : Hid (LS w.heap.size (wr.setCell ⟨g, off + i * 3 + 2, none⟩ (.slice ya fl yc)) (.slice (some ⟨g, off, none⟩) (L + L + 64) vc) ((hdM fs ys).take (i + 1) ++ xs.drop (i + 1)) (fs.map fun f => f.sl ++ mkV 64) ys (mkM L 64) ∧ Below w.heap.size w (wr.setCell ⟨g, off + i * 3 + 2, none⟩ (.slice ya fl yc))) := by
                    have hsl2 : (((hdM fs ys).take (i + 1) ++ xs.drop (i + 1)) ++ (flM ys ++ mkM L 64)).length = L + L + 64 := by rw [← hset, List.length_set, hzl]
                    obtain ⟨z1, z2⟩ := (unhide hG).1.grow (pre' := (hdM fs ys).take (i + 1) ++ xs.drop (i + 1)) (post' := mkM L 64) (v' := .slice (some ⟨g, off, none⟩) (L + L + 64) vc) (s2.mono (fun k _ e => by rw [e]; rfl)) (by rw [hsl2, ← hset]; exact s1) (fun k hk => .inl hk)
                    exact ⟨z1, (unhide hG).2.trans z2⟩
                  have ne1 : (⟨g, off + i * 3 + 2, none⟩ : Addr) ≠ ⟨g, off + (L + i) * 3 + 2, none⟩ := fun e => by simp only [Addr.mk.injEq] at e; omega
                  have HSA : Hid (∀ u, (wr.setCell ⟨g, off + i * 3 + 2, none⟩ u).cell? ⟨g, off + (L + i) * 3 + 2, none⟩ = some (.slice ya (fl + 64) yc) ∧ (wr.setCell ⟨g, off + i * 3 + 2, none⟩ u).cell? ⟨b, off' + i * 3 + 2, none⟩ = some (.slice sa fl sc)) := (have a1 := hide y2; have a2 := hide k2; fun u => ⟨((by first | exact World.cell?_setCell_other ne1 | exact World.cell?_setCell_other _ ne1 | exact World.cell?_setCell_other _ _ ne1 | exact World.cell?_setCell_other _ _ _ ne1 | exact World.cell?_setCell_other _ _ _ _ ne1 : (wr.setCell ⟨g, off + i * 3 + 2, none⟩ u).cell? ⟨g, off + (L + i) * 3 + 2, none⟩ = wr.cell? ⟨g, off + (L + i) * 3 + 2, none⟩)).trans (unhide a1), (World.cell?_setCell_far _ _ _ _ (by show g ≠ b; omega)).trans (unhide a2)⟩)
                  have i0 : (0 : Int) ≤ (i : Int) := by omega
                  have i1 : (i : Int) < (L : Int) := by omega
                  have ewn : IntKind.i64.wrap ((L : Int) + (i : Int)) = ((L + i : Nat) : Int) := by rw [show (L : Int) + (i : Int) = ((L + i : Nat) : Int) by omega]; go_arith
                  have n0 : (0 : Int) ≤ ((L + i : Nat) : Int) := by omega
                  have n1 : ((L + i : Nat) : Int) < ((L + L + 64 : Nat) : Int) := by omega
                  have n2 : (i : Int) < ((L + L + 64 : Nat) : Int) := by omega
                  have n3 : (0 : Int) ≤ (fl : Int) := by omega
                  have n4 : (fl : Int) ≤ (yc : Int) := by omega
                  obtain ⟨LI, hLI⟩ : ∃ n, Hid (L + i = n) := ⟨_, hide rfl⟩
                  obtain ⟨LL, hLL⟩ : ∃ n, Hid (L + L + 64 = n) := ⟨_, hide rfl⟩
                  unfold maxLen at hym hvm
                  rw [unhide hLI] at ewn n0 n1 y2 HSA
                  rw [unhide hLL] at n1 n2 HN ⊢
                  clear hf hy hx hpl hzl hpi hzi hzL hrow hc1 hely hyl' hyc hb k0 k1 hxx hsl hsm xf1 xf2 s1 s2 hset hG ne1 hhl
                  have HN2 : Hid (LS w.heap.size ((wr.setCell ⟨g, off + i * 3 + 2, none⟩ (.slice ya fl yc)).drew) (.slice (some ⟨g, off, none⟩) LL vc) ((hdM fs ys).take (i + 1) ++ xs.drop (i + 1)) (fs.map fun f => f.sl ++ mkV 64) ys (mkM L 64) ∧ Below w.heap.size w ((wr.setCell ⟨g, off + i * 3 + 2, none⟩ (.slice ya fl yc)).drew)) := by
                    obtain ⟨z1, z2⟩ := (unhide HN).1.grow (pre' := (hdM fs ys).take (i + 1) ++ xs.drop (i + 1)) (post' := mkM L 64) (v' := .slice (some ⟨g, off, none⟩) LL vc) ((Fr.refl _ (wr.setCell ⟨g, off + i * 3 + 2, none⟩ (.slice ya fl yc))).drew) ((unhide HN).1.1.fr ((Fr.refl (fun _ => False) _).drew) (fun _ _ e => e)) (fun k hk => .inl hk)
                    exact ⟨z1, (unhide HN).2.trans z2⟩
                  go_wp2_with fail
                  have HSB : Hid ((wr.setCell ⟨g, off + i * 3 + 2, none⟩ (.slice ya fl yc)).drew.cell? ⟨g, off + LI * 3 + 2, none⟩ = some (.slice ya (fl + 64) yc) ∧ (wr.setCell ⟨g, off + i * 3 + 2, none⟩ (.slice ya fl yc)).drew.cell? ⟨b, off' + i * 3 + 2, none⟩ = some (.slice sa fl sc)) := unhide HSA (.slice ya fl yc)
                  go_region_held3 (fun w' => w'.cell? ⟨g, off + LI * 3 + 2, none⟩ = some (.slice ya (fl + 64) yc) ∧ w'.cell? ⟨b, off' + i * 3 + 2, none⟩ = some (.slice sa fl sc)) (first | exact unhide HSB | go_keep) (fail)
                  go_wp2_with fail
                  have hLLe := unhide hLL
                  clear hLL HSB
                  subst hLLe
                  go_roundg (gk - 1)
                  case measure => have := unhide hi; omega
                  case rel => exact ⟨i + 1, by have := unhide hi; unfold Hid; omega, by go_num, HN2⟩
                · have hiL : L = i := by have := unhide hi; omega
                  subst hiL
                  have HR : Hid (LF w.heap.size wr g off vc fs ys ∧ Below w.heap.size w wr) := by
                    obtain ⟨⟨h1, h2, h3, h4⟩, h5⟩ := unhide hG
                    have e1 : (hdM fs ys).take L ++ xs.drop L = hdM fs ys := by rw [List.take_of_length_le (by rw [hhl]; exact Nat.le_refl _), List.drop_eq_nil_of_le (by rw [unhide HXL]; exact Nat.le_refl _), List.append_nil]
                    rw [e1] at h1
                    have e2 : (hdM fs ys ++ (flM ys ++ mkM L 64)).length = L + L + 64 := by rw [List.length_append, hhl, List.length_append, flM_length, mkM_length, unhide HYL]; omega
                    rw [e2] at h1
                    refine ⟨⟨?_, ?_, h3 g rfl⟩, h5⟩
                    · rw [unhide hL]; exact h1
                    · rw [unhide hL]; exact h2
                  clear hG hhl
                  have n1 : (0 : Int) ≤ (L : Int) := by omega
                  have n2 : (L : Int) ≤ (vc : Int) := by omega
                  have HV := hide hvm
                  unfold maxLen at hvm
                  go_wp2_with fail
                  go_ret
                  exact ⟨g, off, vc, ys, by rw [unhide hL]; rfl, (unhide HR).1, (unhide HR).2, by rw [unhide hL]; exact hvc, unhide HV⟩
end Go.Proofs.Ytfcgpafjhifogaa
