/-
  HeapReach: what is written over; three rows.
-/
import Derived.Test.YtbnjfofkpagblaaRSm
namespace Go.Proofs.Ytbnjfofkpagblaa
open Go.RowKit
set_option linter.unusedVariables false
set_option linter.unusedSimpArgs false
theorem rF_ok {os : List Ob} {it : Nat → List (Int × Int)} : ∀ (g i : Nat) (s : RS), OkS os.length s → OkS os.length (rF (kinds os) it g i s)
  | 0, _, _, h => h
  | g + 1, i, s, h => by
    unfold rF
    split
    · exact h
    · exact rF_ok g _ _ h.mLo
theorem rch_len (os : List Ob) (vs : List (Int × Int)) : (rch os vs).length ≤ os.length := (rF_ok _ _ _ (OkS.mLo (OkS.zero _))).le
/-- The first so many are written over. -/
def ovr (vs ots : List (Int × Int)) (i : Nat) : List (Int × Int) := vs.mapIdx (fun j p => if j < i then ots.getD j (0, 0) else p)
theorem ovr_length (vs ots : List (Int × Int)) (i : Nat) : (ovr vs ots i).length = vs.length := by simp [ovr]
theorem ovr_zero (vs ots : List (Int × Int)) : ovr vs ots 0 = vs := by
  unfold ovr
  apply List.ext_getElem?
  intro j
  rw [List.getElem?_mapIdx]
  cases vs[j]? <;> simp
theorem ovr_succ {vs ots : List (Int × Int)} {i : Nat} (hi : i < vs.length) : (ovr vs ots i).set i (ots.getD i (0, 0)) = ovr vs ots (i + 1) := by
  apply List.ext_getElem?
  intro j
  rw [List.getElem?_set]
  unfold ovr
  by_cases e : i = j
  · subst e
    rw [if_pos rfl, if_pos (by simpa using hi), List.getElem?_mapIdx, List.getElem?_eq_getElem hi]
    simp
  · rw [if_neg e, List.getElem?_mapIdx, List.getElem?_mapIdx]
    cases vs[j]? with
    | none => rfl
    | some y =>
      simp only [Option.map_some]
      by_cases q : j < i
      · rw [if_pos q, if_pos (by omega)]
      · rw [if_neg q, if_neg (by omega)]
theorem Ro.put2 {w : World} {v : Value} {n : Nat} {xs : List (Int × Int)} (h : Ro w 2 v n (flt enI xs)) {g off cap : Nat} (e : v = .slice (some ⟨g, off, none⟩) n cap) {i : Nat} (hi : i < xs.length) (p : Int × Int) :
    Ro (w.setCells g (off + i * 2) (enI p)) 2 v n (flt enI (xs.set i p)) ∧ Fr (fun b => b = g) w (w.setCells g (off + i * 2) (enI p)) := by
  have hx : xs[i]? = some xs[i] := List.getElem?_eq_getElem hi
  obtain ⟨a1, f1⟩ := h.put1 zI e (i := i) (c := 0) (x' := (p.1, xs[i].2)) (u := .int .i64 p.1) hx (by omega) rfl
  obtain ⟨a2, f2⟩ := a1.put1 zI e (i := i) (c := 1) (x := (p.1, xs[i].2)) (x' := p) (u := .int .i64 p.2) (by simp [hi]) (by omega) rfl
  rw [List.set_set] at a2
  exact ⟨a2, f1.trans f2⟩
/-- While what was handed in is written over. -/
structure OvS (W : World) (iv : Value) (vs ots : List (Int × Int)) (i : Nat) (wq : World) : Prop where
  f : Fr (fun k => iv.ownBlock = some k) W wq
  row : Ro wq 2 iv vs.length (flt enI (ovr vs ots i))
theorem OvS.step1 {W wq : World} {iv : Value} {vs ots : List (Int × Int)} {i g off cap : Nat} (h : OvS W iv vs ots i wq) (hi : i < vs.length) (e : iv = .slice (some ⟨g, off, none⟩) vs.length cap) (hm : ots.length ≤ i) :
    OvS W iv vs ots (i + 1) (wq.setCells g (off + i * 2) (enI (0, 0))) := by
  obtain ⟨a, f⟩ := h.row.put2 e (i := i) (by rw [ovr_length]; exact hi) (0, 0)
  have hg : ots.getD i (0, 0) = (0, 0) := by rw [List.getD_eq_getElem?_getD, List.getElem?_eq_none hm]; rfl
  have hs := ovr_succ (ots := ots) hi
  rw [hg] at hs
  rw [hs] at a
  exact ⟨h.f.trans (f.mono (fun k _ q => by rw [e, q]; rfl)), a⟩
theorem OvS.step2 {W wq : World} {iv : Value} {vs ots : List (Int × Int)} {i g off cap : Nat} {p : Int × Int} (h : OvS W iv vs ots i wq) (hi : i < vs.length) (e : iv = .slice (some ⟨g, off, none⟩) vs.length cap) (hm : ots[i]? = some p) :
    OvS W iv vs ots (i + 1) ((wq.setCells g (off + i * 2) (enI (0, 0))).setCells g (off + i * 2) (enI p)) := by
  obtain ⟨a, f⟩ := h.row.put2 e (i := i) (by rw [ovr_length]; exact hi) (0, 0)
  obtain ⟨a2, f2⟩ := a.put2 e (i := i) (by rw [List.length_set, ovr_length]; exact hi) p
  rw [List.set_set] at a2
  have hg : ots.getD i (0, 0) = p := by rw [List.getD_eq_getElem?_getD, hm]; rfl
  have hs := ovr_succ (ots := ots) hi
  rw [hg] at hs
  rw [hs] at a2
  exact ⟨h.f.trans ((f.trans f2).mono (fun k _ q => by rw [e, q]; rfl)), a2⟩
/-- How long each of three rows is. -/
def len3 (a b c : Nat) (k : Nat) : Nat := match k with
  | 0 => a
  | 1 => b
  | _ => c
theorem mk3 {w : World} {a b c : Value} {la lb lc : List Int} (ha : Ro w 1 a la.length (flt enN la)) (hb : Ro w 1 b lb.length (flt enN lb)) (hc : Ro w 1 c lc.length (flt enN lc)) : MK w [a, b, c] (len3 la.length lb.length lc.length) 0 0 w := by
  refine ⟨fun j hj => ?_, Fr.refl _ _⟩
  match j, hj with
  | 0, _ => exact ⟨la, rfl, ha, fun h => absurd h (by omega), fun _ t ht => absurd ht (by omega)⟩
  | 1, _ => exact ⟨lb, rfl, hb, fun h => absurd h (by omega), fun _ t ht => absurd ht (by omega)⟩
  | 2, _ => exact ⟨lc, rfl, hc, fun h => absurd h (by omega), fun _ t ht => absurd ht (by omega)⟩
theorem gc3 {w : World} {a b c : Value} (ha : ∀ k, a.ownBlock = some k → k < w.heap.size) (hb : ∀ k, b.ownBlock = some k → k < w.heap.size) (hc : ∀ k, c.ownBlock = some k → k < w.heap.size)
    (hab : ∀ k, a.ownBlock = some k → b.ownBlock ≠ some k) (hac : ∀ k, a.ownBlock = some k → c.ownBlock ≠ some k) (hbc : ∀ k, b.ownBlock = some k → c.ownBlock ≠ some k) : GC w [a, b, c] := by
  refine ⟨fun k ⟨j, hj, h⟩ => ?_, fun j j' k hj hj' hn h h' => ?_⟩
  · match j, hj with
    | 0, _ => exact ha k h
    | 1, _ => exact hb k h
    | 2, _ => exact hc k h
  · match j, hj, j', hj' with
    | 0, _, 0, _ => exact hn rfl
    | 0, _, 1, _ => exact hab k h h'
    | 0, _, 2, _ => exact hac k h h'
    | 1, _, 0, _ => exact hab k h' h
    | 1, _, 1, _ => exact hn rfl
    | 1, _, 2, _ => exact hbc k h h'
    | 2, _, 0, _ => exact hac k h' h
    | 2, _, 1, _ => exact hbc k h' h
    | 2, _, 2, _ => exact hn rfl
theorem bk3 {a b c : Value} {k : Nat} (h : bk [a, b, c] k) : a.ownBlock = some k ∨ b.ownBlock = some k ∨ c.ownBlock = some k := by
  obtain ⟨j, hj, h⟩ := h
  match j, hj with
  | 0, _ => exact .inl h
  | 1, _ => exact .inr (.inl h)
  | 2, _ => exact .inr (.inr h)
end Go.Proofs.Ytbnjfofkpagblaa
