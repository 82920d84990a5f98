/-
  A tower of lists of one's own: codes, blocks, instructions, shapes; marked one after the other.
-/
import Derived.Test.YtpbdmbmafjkinaaDoorOvR
namespace Go.Proofs.YtpbdmbmafjkinaaDoor
open Go.RowKit
set_option linter.unusedVariables false
set_option linter.unusedSimpArgs false
def Stays1 {T : Type} (P : World → T → Prop) (bl : T → Nat → Prop) : Prop :=
  ∀ (S : Nat → Prop) (w w' : World) (x : T), P w x → Fr S w w' → (∀ k, bl x k → ¬ S k) → P w' x
/-- A list of one's own. -/
structure LO {T : Type} (en : T → List Value) (sz : Nat) (P : World → T → Prop) (bl : T → Nat → Prop) (w : World) (v : Value) (xs : List T) : Prop where
  row : Ro w sz v xs.length (flt en xs)
  el : ∀ (i : Nat) (x : T), xs[i]? = some x → P w x
  ao : AO bl w.heap.size v xs
section
variable {T : Type} {en : T → List Value} {sz : Nat} {P : World → T → Prop} {bl : T → Nat → Prop} {w0 w w' : World} {v : Value} {xs : List T} {i iu : Nat} {mk : Nat → T → T}
theorem LO.fr {S : Nat → Prop} (hP : Stays1 P bl) (h : LO en sz P bl w v xs) (f : Fr S w w') (hS : ∀ k, (v.ownBlock = some k ∨ ∃ x ∈ xs, bl x k) → ¬ S k) : LO en sz P bl w' v xs :=
  ⟨h.row.fr f (fun k hk => hS k (.inl hk)), fun i x hx => hP S w w' x (h.el i x hx) f (fun k hk => hS k (.inr ⟨x, List.mem_of_getElem? hx, hk⟩)), h.ao.mono f.size⟩
theorem LO.lt (h : LO en sz P bl w v xs) {k : Nat} (hk : v.ownBlock = some k ∨ ∃ x ∈ xs, bl x k) : k < w.heap.size := by
  rcases hk with q | ⟨x, hx, q⟩
  · exact h.row.lt k q
  · obtain ⟨i, hi, rfl⟩ := List.getElem_of_mem hx
    exact (h.ao.eb i _ k (List.getElem?_eq_getElem hi) q).1
/-- Where a thing lies. -/
theorem LO.cells (hz : ∀ x, (en x).length = sz) (h : LO en sz P bl w v xs) {j : Nat} {x : T} (hx : xs[j]? = some x) :
    ∃ g off cap, v = .slice (some ⟨g, off, none⟩) xs.length cap ∧ xs.length ≤ cap ∧ cap ≤ maxLen ∧ g < w.heap.size ∧ (∀ c u, (en x)[c]? = some u → w.cell? ⟨g, off + j * sz + c, none⟩ = some u) ∧ ∀ c, w.frozen? ⟨g, c, none⟩ = false := by
  obtain ⟨b, off, cap, e, q1, q2, q3, q4⟩ := (Rx.of_ro h.row).elem hz hx
  exact ⟨b, off, cap, e, q1, q2, q3, q4, fun c => h.row.free e c⟩
/-- The first i things are marked. -/
def mkU (mk : Nat → T → T) (i : Nat) (xs : List T) : List T := xs.mapIdx (fun j x => if j < i then mk j x else x)
theorem mkU_length (mk : Nat → T → T) (i : Nat) (xs : List T) : (mkU mk i xs).length = xs.length := by simp [mkU]
theorem mkU_at (mk : Nat → T → T) (i : Nat) {j : Nat} {x : T} (hx : xs[j]? = some x) : (mkU mk i xs)[j]? = some (if j < i then mk j x else x) := by simp [mkU, List.getElem?_mapIdx, hx]
theorem mkU_zero (mk : Nat → T → T) (xs : List T) : mkU mk 0 xs = xs := by
  refine List.ext_getElem? (fun j => ?_)
  simp [mkU, List.getElem?_mapIdx]
theorem mkU_full (mk : Nat → T → T) (xs : List T) : mkU mk xs.length xs = xs.mapIdx mk := by
  refine List.ext_getElem? (fun j => ?_)
  simp only [mkU, List.getElem?_mapIdx]
  cases hx : xs[j]? with
  | none => rfl
  | some x => simp [(List.getElem?_eq_some_iff.1 hx).1]
theorem mkU_set (mk : Nat → T → T) {i : Nat} {x : T} (hx : xs[i]? = some x) : (mkU mk i xs).set i (mk i x) = mkU mk (i + 1) xs := by
  refine List.ext_getElem? (fun j => ?_)
  by_cases q : j = i
  · subst q
    rw [List.getElem?_set_self (by rw [mkU_length]; exact (List.getElem?_eq_some_iff.1 hx).1), mkU_at mk (j + 1) hx, if_pos (by omega)]
  · rw [List.getElem?_set_ne (fun e => q e.symm)]
    simp only [mkU, List.getElem?_mapIdx]
    cases hy : xs[j]? with
    | none => rfl
    | some y =>
      simp only [Option.map_some, Option.some.injEq]
      by_cases q2 : j < i
      · rw [if_pos q2, if_pos (by omega)]
      · rw [if_neg q2, if_neg (by omega)]
/-- So many are marked; of those from iu on the own blocks are as they were. -/
structure MP (en : T → List Value) (sz : Nat) (P : World → T → Prop) (bl : T → Nat → Prop) (mk : Nat → T → T) (w0 : World) (v : Value) (xs : List T) (i iu : Nat) (w : World) : Prop where
  fr : Fr (fun q => v.ownBlock = some q ∨ ∃ x ∈ xs, bl x q) w0 w
  row : Ro w sz v xs.length (flt en (mkU mk i xs))
  el : ∀ (j : Nat) (x : T), j < i → xs[j]? = some x → P w (mk j x)
  un : ∀ (j : Nat) (x : T) (q : Nat), iu ≤ j → xs[j]? = some x → bl x q → w.heap[q]? = w0.heap[q]?
theorem MP.start (h : Ro w0 sz v xs.length (flt en xs)) : MP en sz P bl mk w0 v xs 0 0 w0 :=
  ⟨Fr.refl _ _, by rw [mkU_zero]; exact h, fun j x hj => by omega, fun _ _ _ _ _ _ => rfl⟩
theorem MP.same (h : MP en sz P bl mk w0 v xs i iu w) : Fr (fun q => w.heap[q]? ≠ w0.heap[q]?) w0 w :=
  ⟨h.fr.os, h.fr.tape, h.fr.output, h.fr.size, fun k _ hn => Classical.not_not.1 hn⟩
theorem MP.keep (hP : Stays1 P bl) (h : MP en sz P bl mk w0 v xs i iu w) {j : Nat} (hj : iu ≤ j) {x : T} (hx : xs[j]? = some x) (hp : P w0 x) : P w x :=
  hP _ w0 w x hp h.same (fun k hk e => e (h.un j x k hj hx hk))
theorem MP.cells (hz : ∀ x, (en x).length = sz) (h : MP en sz P bl mk w0 v xs i iu w) {j : Nat} (hj : i ≤ j) {x : T} (hx : xs[j]? = some x) :
    ∃ g off cap, v = .slice (some ⟨g, off, none⟩) xs.length cap ∧ xs.length ≤ cap ∧ cap ≤ maxLen ∧ g < w.heap.size ∧ (∀ c u, (en x)[c]? = some u → w.cell? ⟨g, off + j * sz + c, none⟩ = some u) ∧ ∀ c, w.frozen? ⟨g, c, none⟩ = false := by
  have hy : (mkU mk i xs)[j]? = some x := by rw [mkU_at mk i hx, if_neg (by omega)]
  have hr := Rx.of_ro h.row
  rw [← mkU_length mk i xs] at hr
  obtain ⟨b, off, cap, e, q1, q2, q3, q4⟩ := hr.elem hz hy
  rw [mkU_length] at e q1
  exact ⟨b, off, cap, e, q1, q2, q3, q4, fun c => h.row.free e c⟩
theorem MP.inner (hP : Stays1 P bl) (hb : ∀ j x q, bl (mk j x) q → bl x q) (a : AO bl w0.heap.size v xs) (h : MP en sz P bl mk w0 v xs i i w) {x : T} (hx : xs[i]? = some x) {S : Nat → Prop} (f : Fr S w w') (hS : ∀ q, q < w.heap.size → S q → bl x q) : MP en sz P bl mk w0 v xs i (i + 1) w' := by
  have hs := h.fr.size
  refine ⟨h.fr.comp f (fun q hq e => .inr ⟨x, List.mem_of_getElem? hx, hS q (by omega) e⟩), h.row.fr f (fun q hq e => (a.eb i x q hx (hS q (h.row.lt q hq) e)).2 hq), fun j y hj hy => ?_, fun j y q hj hy hq => ?_⟩
  · refine hP S w w' _ (h.el j y hj hy) f (fun q hq e => ?_)
    have hq' := hb j y q hq
    have hl := (a.eb j y q hy hq').1
    exact a.ap j i y x q (by omega) hy hx hq' (hS q (by omega) e)
  · have hl := (a.eb j y q hy hq).1
    exact (f.block q (by omega) (fun e => a.ap j i y x q (by omega) hy hx hq (hS q (by omega) e))).trans (h.un j y q (by omega) hy hq)
/-- One is marked. -/
theorem MP.done (hP : Stays1 P bl) (hb : ∀ j x q, bl (mk j x) q → bl x q) (a : AO bl w0.heap.size v xs) (h : MP en sz P bl mk w0 v xs i (i + 1) w) {x : T} (hx : xs[i]? = some x) (f : Fr (fun q => v.ownBlock = some q) w w') (hr : Ro w' sz v xs.length (flt en (mkU mk (i + 1) xs))) (hp : P w' (mk i x)) : MP en sz P bl mk w0 v xs (i + 1) (i + 1) w' := by
  have hs := h.fr.size
  refine ⟨h.fr.comp f (fun q hq e => .inl e), hr, fun j y hj hy => ?_, fun j y q hj hy hq => ?_⟩
  · by_cases q : j < i
    · exact hP _ w w' _ (h.el j y q hy) f (fun k hk e => (a.eb j y k hy (hb j y k hk)).2 e)
    · obtain rfl : j = i := by omega
      rw [hx] at hy
      cases hy
      exact hp
  · have hl := a.eb j y q hy hq
    exact (f.block q (by omega) (fun e => hl.2 e)).trans (h.un j y q hj hy hq)
/-- All are marked. -/
theorem MP.full (hb : ∀ j x q, bl (mk j x) q → bl x q) (a : AO bl w0.heap.size v xs) (h : MP en sz P bl mk w0 v xs i iu w) (hi : i = xs.length) : LO en sz P bl w v (xs.mapIdx mk) := by
  subst hi
  have key : ∀ (j : Nat) (y : T), (xs.mapIdx mk)[j]? = some y → ∃ x, xs[j]? = some x ∧ y = mk j x := fun j y hy => by
    rw [List.getElem?_mapIdx] at hy
    cases hx : xs[j]? with
    | none => rw [hx] at hy; cases hy
    | some x => rw [hx] at hy; cases hy; exact ⟨x, rfl, rfl⟩
  have hs := h.fr.size
  refine ⟨by rw [List.length_mapIdx, ← mkU_full]; exact h.row, fun j y hy => ?_, fun j y k hy hk => ?_, fun j l y z k hjl hy hz hk e => ?_⟩
  · obtain ⟨x, hx, rfl⟩ := key j y hy
    exact h.el j x (List.getElem?_eq_some_iff.1 hx).1 hx
  · obtain ⟨x, hx, rfl⟩ := key j y hy
    have := a.eb j x k hx (hb j x k hk)
    exact ⟨by omega, this.2⟩
  · obtain ⟨x, hx, rfl⟩ := key j y hy
    obtain ⟨x', hx', rfl⟩ := key l z hz
    exact a.ap j l x x' k hjl hx hx' (hb j x k hk) (hb l x' k e)
end
def slS : World → ShR → Prop := fun _ r => ∃ a n c, r.v = .slice a n c
theorem stay_slS {bl : ShR → Nat → Prop} : Stays1 slS bl := fun _ _ _ _ h _ _ => h
/-- The shapes of an instruction; the instructions of a block; the blocks of a code. -/
def IEo (w : World) (t : TI) : Prop := LO enSh 3 slS no w t.1.ev t.2
def blE (t : TI) (q : Nat) : Prop := t.1.ev.ownBlock = some q
def BEo (w : World) (x : TB) : Prop := LO enT 8 IEo blE w x.1.iv x.2
def blF (x : TB) (q : Nat) : Prop := x.1.iv.ownBlock = some q ∨ ∃ t ∈ x.2, blE t q
structure CdR where
  fn : Int
  regs : Int
  v : Value
abbrev TC := CdR × List TB
def enC (c : CdR) : List Value := [.int .i64 c.fn, .int .i64 c.regs, c.v]
def enTC (c : TC) : List Value := enC c.1
theorem zTC : ∀ p, (enTC p).length = 3 := fun _ => rfl
def CEo (w : World) (c : TC) : Prop := LO enTB 3 BEo blF w c.1.v c.2
def blG (c : TC) (q : Nat) : Prop := c.1.v.ownBlock = some q ∨ ∃ x ∈ c.2, blF x q
theorem stayIE : Stays1 IEo blE := fun S w w' t h f hS => LO.fr stay_slS h f (fun k hk => by
  rcases hk with q | ⟨_, _, q⟩
  · exact hS k q
  · exact q.elim)
theorem stayBE : Stays1 BEo blF := fun S w w' x h f hS => LO.fr stayIE h f hS
theorem stayCE : Stays1 CEo blG := fun S w w' c h f hS => LO.fr stayBE h f hS
/-- Codes that are handed to apartLists. -/
def LOC (w : World) (v : Value) (cs : List TC) : Prop := LO enTC 3 CEo blG w v cs
theorem blG_in {c : TC} {x : TB} {q : Nat} (hx : x ∈ c.2) (h : blF x q) : blG c q := .inr ⟨x, hx, h⟩
theorem blF_in {x : TB} {t : TI} {q : Nat} (ht : t ∈ x.2) (h : blE t q) : blF x q := .inr ⟨t, ht, h⟩
end Go.Proofs.YtpbdmbmafjkinaaDoor
