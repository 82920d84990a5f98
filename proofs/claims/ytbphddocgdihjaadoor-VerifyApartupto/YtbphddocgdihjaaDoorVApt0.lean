/-
  A copy of a program in which one function is written over.
-/
import Derived.Test.YtbphddocgdihjaaDoorCopyP
import Derived.Test.YtbphddocgdihjaaDoorVWork2
import Derived.Test.YtbphddocgdihjaaDoorVTake
namespace Go.Proofs.YtbphddocgdihjaaDoor
open Go.RowKit
set_option linter.unusedVariables false
set_option linter.unusedSimpArgs false
theorem FnR.one {f : Fc} {l l' : List Int} (h : FnR f (some l) 0 0) (h' : FnR f (some l') 0 0) : l = l' := by
  rcases h with h | h | ⟨_, _, _, _, l1, e, hl, hm⟩
  · cases h.2.1
  · cases h.2.1
  rcases h' with h' | h' | ⟨_, _, _, _, l2, e', hl', hm'⟩
  · cases h'.2.1
  · cases h'.2.1
  cases e; cases e'
  refine List.ext_getElem? fun p => ?_
  cases q : l[p]? with
  | none => rw [List.getElem?_eq_none_iff] at q; rw [List.getElem?_eq_none (by omega)]
  | some z => rw [(hm' p z).2 ((hm p z).1 q)]
theorem FnR.no {f : Fc} {l : List Int} {a er : Int} (h : FnR f (some l) 0 0) (h' : FnR f none a er) : False := by
  rcases h with h | h | ⟨_, _, hb, hu, _⟩
  · cases h.2.1
  · cases h.2.1
  rcases h' with ⟨_, _, p, _, hp, _⟩ | ⟨_, _, _, p, _, hp, _⟩ | ⟨_, _, _, _, _, e, _⟩
  · exact hb p hp
  · exact hu p hp
  · cases e
/-- A program with one function changed. -/
def stF (p : Pg) (k : Nat) (f' : Fc) : Pg := { p with funcs := p.funcs.set k f' }
theorem stF_at {p : Pg} {k : Nat} {f f' : Fc} (hk : p.funcs[k]? = some f) : (stF p k f').funcs[k]? = some f' := by
  show (p.funcs.set k f')[k]? = some f'
  rw [List.getElem?_set_self (List.getElem?_eq_some_iff.1 hk).1]
theorem stF_ne {p : Pg} {k i : Nat} {f' : Fc} (h : i ≠ k) : (stF p k f').funcs[i]? = p.funcs[i]? := by
  show (p.funcs.set k f')[i]? = _
  rw [List.getElem?_set_ne (fun e => h e.symm)]
theorem stF_len (p : Pg) (k : Nat) (f' : Fc) : (stF p k f').funcs.length = p.funcs.length := by
  show (p.funcs.set k f').length = _
  rw [List.length_set]
theorem names_set {l : List Fc} {k : Nat} {f f' : Fc} (hk : l[k]? = some f) (hn : f'.name = f.name) (j : Nat) (n : ByteArray) : (∃ g ∈ (l.set k f').take j, g.name = n) ↔ ∃ g ∈ l.take j, g.name = n := by
  have e : ((l.set k f').take j).map Fc.name = (l.take j).map Fc.name := by
    rw [List.map_take, List.map_take, List.map_set, hn]
    congr 1
    refine List.ext_getElem? fun i => ?_
    by_cases c : k = i
    · subst c
      rw [List.getElem?_set_self (by simp; exact (List.getElem?_eq_some_iff.1 hk).1), List.getElem?_map, hk]
      rfl
    · rw [List.getElem?_set_ne c]
  have key : ∀ (m : List Fc), (∃ g ∈ m, g.name = n) ↔ n ∈ m.map Fc.name := fun m => by simp
  rw [key, key, e]
/-- It stays right, if the new function is. -/
theorem ckF_set {p : Pg} (hg : ckF p = none) {k : Nat} {f f' : Fc} (hk : p.funcs[k]? = some f) (hn : f'.name = f.name) (hs : szF f' (decide (k = 0)) = none) (hc : cdF p f' = none) (hh : hsF f' = none) : ckF (stF p k f') = none := by
  obtain ⟨g1, g2, g3, g4⟩ := ckF_none.1 hg
  refine ckF_none.2 ⟨g1, by rw [stF_len]; exact g2, by rw [stF_len]; exact g3, fun j g hj => ?_⟩
  have hnm : decide (∃ g' ∈ (stF p k f').funcs.take j, g'.name = g.name) = decide (∃ g' ∈ p.funcs.take j, g'.name = g.name) := decide_eq_decide.2 (names_set hk hn j g.name)
  rw [hnm, fnF_congr (p := p) (p' := stF p k f') rfl (stF_len p k f')]
  by_cases c : j = k
  · subst c
    rw [stF_at hk] at hj
    cases hj
    obtain ⟨n1, _, _, _⟩ := fnF_none.1 (g4 j f hk)
    rw [hn]
    refine fnF_none.2 ⟨by rw [hn]; exact n1, hs, hc, hh⟩
  · rw [stF_ne c] at hj
    exact g4 j g hj
/-- nil, throw. -/
def fThrow (f : Fc) : Fc := { f with code := [(1, 0), (45, 0)], hs := [] }
theorem thr_code {f : Fc} {j : Nat} {q : Int × Int} (h : (fThrow f).code[j]? = some q) : (j = 0 ∧ q = (1, 0)) ∨ (j = 1 ∧ q = (45, 0)) := by
  have hj := (List.getElem?_eq_some_iff.1 h).1
  have : j = 0 ∨ j = 1 := by simp [fThrow] at hj; omega
  rcases this with rfl | rfl
  · simp [fThrow] at h; exact .inl ⟨rfl, h.symm⟩
  · simp [fThrow] at h; exact .inr ⟨rfl, h.symm⟩
theorem ck_throw {p : Pg} (hg : ckF p = none) {k : Nat} {f : Fc} (hk : p.funcs[k]? = some f) : ckF (stF p k (fThrow f)) = none := by
  obtain ⟨g1, g2, g3, g4⟩ := ckF_none.1 hg
  obtain ⟨_, n2, _, _⟩ := fnF_none.1 (g4 k f hk)
  obtain ⟨s1, s2, s3, s4, _, _⟩ := szF_none.1 n2
  refine ckF_set hg hk rfl (szF_none.2 ⟨s1, s2, s3, s4, by simp [fThrow], by simp [fThrow]⟩) (cdF_none.2 fun j q hq => ?_) (hsF_none.2 ⟨by simp [fThrow], fun j g hg => by simp [fThrow] at hg⟩)
  rcases thr_code hq with ⟨_, rfl⟩ | ⟨_, rfl⟩
  · exact ⟨by decide +kernel, rfl⟩
  · exact ⟨by decide +kernel, rfl⟩
theorem fn_throw {f : Fc} (hf : OkF (fThrow f)) : FnR (fThrow f) (some [0, 1]) 0 0 := by
  have t1 : tkI 45 0 = 1 := by decide +kernel
  have t2 : ptI 45 0 = 0 := by decide +kernel
  have n0 : nxl 2 1 0 0 = [1] := by decide +kernel
  have n1 : nxl 2 45 0 1 = [] := by decide +kernel
  have hl : (fThrow f).code.length = 2 := rfl
  refine FnR.of_fit hf rfl rfl (fun p hp => ?_) (op := 45) (a := 0) rfl (by decide +kernel) (fun p hp => ?_)
  · rw [hl] at hp
    have : p = 0 ∨ p = 1 := by omega
    rcases this with rfl | rfl
    · refine ⟨1, 0, 0, rfl, ok1, rfl, by omega, by omega, by rw [tk1]; omega, by rw [tk1, pt1]; omega, fun y hy => ?_, fun k hk => by simp [fThrow] at hk⟩
      rw [hl, n0] at hy
      simp at hy
      subst hy
      rw [tk1, pt1, hl]
      exact ⟨by omega, by omega, rfl⟩
    · refine ⟨45, 0, 1, rfl, by decide +kernel, rfl, by omega, by omega, by rw [t1]; omega, by rw [t1, t2]; omega, fun y hy => ?_, fun k hk => by simp [fThrow] at hk⟩
      rw [hl, n1] at hy
      simp at hy
  · rw [hl] at hp
    have : p = 0 ∨ p = 1 := by omega
    rcases this with rfl | rfl
    · exact ⟨0, .zero⟩
    · refine ⟨1, Mt.next (p := 0) (ht := 0) (op := 1) (a := 0) .zero rfl ?_⟩
      rw [hl, nx10]; simp
/-- The copy, with the function k as it is now. -/
structure OX (B : Nat) (p : Pg) (xs : List Fv) (cv fv : Value) (k : Nat) (x' : Fv) (wr : World) : Prop where
  co : Ro wr 3 cv p.consts.length (flt enC p.consts)
  fo : Ro wr 5 fv xs.length (flt enF (xs.set k x'))
  cb : ∀ b, cv.ownBlock = some b → B ≤ b
  fb : ∀ b, fv.ownBlock = some b → B ≤ b
  ne : ∀ b, cv.ownBlock = some b → fv.ownBlock ≠ some b
  xl : xs.length = p.funcs.length
  rows : ∀ (i : Nat) (f : Fc) (x : Fv), i ≠ k → p.funcs[i]? = some f → xs[i]? = some x → FnO wr f x
  apart : ∀ (i : Nat) (x : Fv) (b : Nat), i ≠ k → xs[i]? = some x → (x.cv.ownBlock = some b ∨ x.hv.ownBlock = some b) → B ≤ b ∧ fv.ownBlock ≠ some b
section
variable {B : Nat} {p : Pg} {xs : List Fv} {cv fv : Value} {k : Nat} {x' : Fv} {wr w' : World}
theorem OX.of (h : OP B p xs cv fv wr) {x : Fv} (hx : xs[k]? = some x) : OX B p xs cv fv k x wr := by
  have e : xs.set k x = xs := by
    refine List.ext_getElem? fun i => ?_
    by_cases c : k = i
    · subst c; rw [List.getElem?_set_self (List.getElem?_eq_some_iff.1 hx).1, hx]
    · rw [List.getElem?_set_ne c]
  exact ⟨h.co, by rw [e]; exact h.fo, h.cb, h.fb, h.ne, h.pt.xl, fun i f x _ hf hx => h.pt.rows i f x hf hx, fun i x b _ hx hb => by obtain ⟨a1, _, a3⟩ := h.pt.apart i x b hx hb; exact ⟨a1, a3⟩⟩
theorem OX.fr {S : Nat → Prop} (h : OX B p xs cv fv k x' wr) (f : Fr S wr w') (hn : ∀ b, B ≤ b → b < wr.heap.size → ¬ S b) : OX B p xs cv fv k x' w' :=
  ⟨h.co.fr f (fun b hb => hn b (h.cb b hb) (h.co.lt b hb)), h.fo.fr f (fun b hb => hn b (h.fb b hb) (h.fo.lt b hb)), h.cb, h.fb, h.ne, h.xl, fun i g x hi hg hx => (h.rows i g x hi hg hx).fr f (fun b hb => hn b (h.apart i x b hi hx hb).1 ((h.rows i g x hi hg hx).lt hb)), h.apart⟩
theorem OX.keep (h : OX B p xs cv fv k x' wr) (f : Below wr.heap.size wr w') : OX B p xs cv fv k x' w' := h.fr (S := fun _ => False) (Fr.of_below f) (fun _ _ _ e => e)
/-- One cell of the function is written over. -/
theorem OX.put (h : OX B p xs cv fv k x' wr) {g off n cap : Nat} (e : fv = .slice (some ⟨g, off, none⟩) n cap) (hk : k < xs.length) {j : Nat} {x2 : Fv} {v : Value} (hj : j < 5)
    (hset : ∀ i, i < 5 → (enF x2)[i]? = if i = j then some v else (enF x')[i]?) : OX B p xs cv fv k x2 (wr.setCell ⟨g, off + k * 5 + j, none⟩ v) := by
  have hg : fv.ownBlock = some g := by rw [e]; rfl
  have f : Fr (fun b => b = g) wr (wr.setCell ⟨g, off + k * 5 + j, none⟩ v) := (Fr.refl (fun b => b = g) wr).setCell ⟨g, off + k * 5 + j, none⟩ (.inr rfl) _
  refine ⟨h.co.fr f (fun b hb (e2 : b = g) => h.ne b hb (e2 ▸ hg)), ?_, h.cb, h.fb, h.ne, h.xl, fun i f' x hi hf hx => (h.rows i f' x hi hf hx).fr f (fun b hb (e2 : b = g) => (h.apart i x b hi hx hb).2 (e2 ▸ hg)), h.apart⟩
  have hxk : (xs.set k x')[k]? = some x' := List.getElem?_set_self hk
  have hfo := h.fo
  have hl : xs.length = (xs.set k x').length := by rw [List.length_set]
  rw [hl] at hfo
  have := (Ro.part zF hfo (k := k) (j := j) (x := x') (x' := x2) (vs := [v]) e hxk (by simp; omega) (fun i hi => by
    rw [hset i hi]
    by_cases c : i = j
    · subst c; rw [if_pos rfl, if_pos (by simp)]; simp
    · rw [if_neg c, if_neg (by simp; omega)])).1
  rw [List.set_set, ← hl] at this
  exact this
theorem OX.pgv (h : OX B p xs cv fv k x' wr) {f f' : Fc} (hk : p.funcs[k]? = some f) (hF : FnV wr f' x') : PgV wr (.agg #[cv, fv]) (stF p k f') := by
  have hkl : k < xs.length := by rw [h.xl]; exact (List.getElem?_eq_some_iff.1 hk).1
  refine ⟨cv, fv, rfl, Rx.of_ro h.co, xs.set k x', by rw [List.length_set, stF_len]; exact h.xl, ?_, fun i g x hg hx => ?_⟩
  · rw [List.length_set]; exact Rx.of_ro h.fo
  · by_cases c : i = k
    · subst c
      rw [stF_at hk] at hg
      rw [List.getElem?_set_self hkl] at hx
      cases hg; cases hx
      exact hF
    · rw [stF_ne c] at hg
      rw [List.getElem?_set_ne (fun e => c e.symm)] at hx
      exact (h.rows i g x c hg hx).fnv
/-- Its cells. -/
theorem OX.cells (h : OX B p xs cv fv k x' wr) {g off n cap : Nat} (e : fv = .slice (some ⟨g, off, none⟩) n cap) (hk : k < xs.length) : (∀ (j : Nat) (v : Value), (enF x')[j]? = some v → wr.cell? ⟨g, off + k * 5 + j, none⟩ = some v) ∧ (∀ o, wr.frozen? ⟨g, o, none⟩ = false) ∧ g < wr.heap.size ∧ B ≤ g := by
  have hxk : (xs.set k x')[k]? = some x' := List.getElem?_set_self hk
  have hg : fv.ownBlock = some g := by rw [e]; rfl
  have hfo := h.fo
  have hl : xs.length = (xs.set k x').length := by rw [List.length_set]
  rw [hl] at hfo
  obtain ⟨b, o2, c2, e2, _, _, _, hc⟩ := (Rx.of_ro hfo).elem zF hxk
  rw [← hl, e] at e2
  obtain ⟨a3, c3, e3, _⟩ := h.fo.shape
  rw [e] at e3
  cases e3
  cases e2
  exact ⟨hc, fun o => h.fo.free e o, h.fo.lt g hg, h.fb g hg⟩
end
/-- What stays found where one function changes. -/
theorem vp_set {p : Pg} {k : Nat} {f f' : Fc} (hk : p.funcs[k]? = some f) (hok : ∀ (i : Nat) (g : Fc), p.funcs[i]? = some g → ∃ l, FnR g (some l) 0 0) {L : Option (List (List Int))} {k2 a er : Int} (hV : VpR (stF p k f') L k2 a er) (hc : ckF (stF p k f') = none) :
    (er ≠ 0 ∧ L = none ∧ k2 = (k : Int) ∧ FnR f' none a er) ∨ (k2 = 0 ∧ a = 0 ∧ er = 0 ∧ ∃ Ls, L = some Ls ∧ Ls.length = p.funcs.length ∧ ∀ (i : Nat) (g : Fc) (l : List Int), (stF p k f').funcs[i]? = some g → Ls[i]? = some l → FnR g (some l) 0 0) := by
  rcases hV with ⟨y, e, _⟩ | ⟨_, i, g, hg, e1, e2, e3, e4, _⟩ | ⟨_, e1, e2, e3, Ls, e4, e5, e6⟩
  · rw [hc] at e; cases e
  · left
    by_cases c : i = k
    · subst c
      rw [stF_at hk] at hg
      cases hg
      exact ⟨e3, e2, e1, e4⟩
    · rw [stF_ne c] at hg
      obtain ⟨l, hl⟩ := hok i g hg
      exact (hl.no e4).elim
  · exact .inr ⟨e1, e2, e3, Ls, e4, by rw [e5, stF_len], e6⟩
end Go.Proofs.YtbphddocgdihjaaDoor
