/-
  Numbers given on the way, and behind it: the same.
-/
import Derived.Test.YtadgiccfjppnfaaBc0
namespace Go.Proofs.Ytadgiccfjppnfaa
open Go.RowKit
set_option linter.unusedVariables false
set_option linter.unusedSimpArgs false
/-- What was met stays, in its place. -/
structure Ext (m m' : List Nat × List Nat) : Prop where
  t : m.1 <+: m'.1
  o : m.2 <+: m'.2
theorem Ext.refl (m : List Nat × List Nat) : Ext m m := ⟨List.prefix_rfl, List.prefix_rfl⟩
theorem Ext.trans {a b c : List Nat × List Nat} (h : Ext a b) (k : Ext b c) : Ext a c := ⟨h.t.trans k.t, h.o.trans k.o⟩
theorem addN_pre (l : List Nat) (n : Nat) : l <+: addN l n := by
  unfold addN
  split
  · exact List.prefix_rfl
  · exact List.prefix_append _ _
theorem addT_pre (nt : Nat) (l : List Nat) (n : Int) : l <+: addT nt l n := by
  unfold addT
  split
  · exact addN_pre _ _
  · exact List.prefix_rfl
theorem Ext.v (nt : Nat) (O : List Ob) (m : List Nat × List Nat) (v : Int × Int) : Ext m (metV nt O m v) := by
  unfold metV
  split
  · exact ⟨addT_pre _ _ _, List.prefix_rfl⟩
  · split
    · exact ⟨List.prefix_rfl, addN_pre _ _⟩
    · exact Ext.refl m
theorem Ext.vs (nt : Nat) (O : List Ob) : ∀ (l : List (Int × Int)) (m : List Nat × List Nat), Ext m (metVs nt O m l)
  | [], m => Ext.refl m
  | v :: r, m => (Ext.v nt O m v).trans (Ext.vs nt O r _)
theorem Ext.ms (nt : Nat) (O : List Ob) : ∀ (l : List Fm) (m : List Nat × List Nat), Ext m (metM nt O m l)
  | [], m => Ext.refl m
  | v :: r, m => (Ext.vs nt O v.sl m).trans (Ext.ms nt O r _)
theorem Ext.fs (nt : Nat) (O : List Ob) : ∀ (l : List (List Fm)) (m : List Nat × List Nat), Ext m (metF nt O m l)
  | [], m => Ext.refl m
  | v :: r, m => (Ext.ms nt O v m).trans (Ext.fs nt O r _)
theorem posN_pre {l l' : List Nat} {n : Nat} (h : l <+: l') (hn : n ∈ l) : posN l' n = posN l n := by
  obtain ⟨r, rfl⟩ := h
  unfold posN
  rw [if_pos hn, if_pos (List.mem_append_left _ hn), List.idxOf_append, if_pos hn]
theorem mem_addN (l : List Nat) (n : Nat) : n ∈ addN l n := by
  unfold addN
  split
  · assumption
  · simp
/-- A value has been met, if it names something. -/
def Hv (nt : Nat) (O : List Ob) (m : List Nat × List Nat) (v : Int × Int) : Prop :=
  (v.1 = 4 → 0 ≤ v.2 → v.2 < (nt : Int) → v.2.toNat ∈ m.1) ∧ (v.1 ≠ 4 → (nmO O v).isSome = true → v.2.toNat ∈ m.2)
theorem Hv.self (nt : Nat) (O : List Ob) (m : List Nat × List Nat) (v : Int × Int) : Hv nt O (metV nt O m v) v := by
  refine ⟨fun h1 h2 h3 => ?_, fun h1 h2 => ?_⟩
  · unfold metV
    rw [if_pos h1]
    unfold addT
    rw [if_pos ⟨h2, h3⟩]
    exact mem_addN _ _
  · unfold metV
    rw [if_neg h1, if_pos h2]
    exact mem_addN _ _
theorem Hv.ext {nt : Nat} {O : List Ob} {m m' : List Nat × List Nat} {v : Int × Int} (h : Hv nt O m v) (e : Ext m m') : Hv nt O m' v :=
  ⟨fun h1 h2 h3 => e.t.subset (h.1 h1 h2 h3), fun h1 h2 => e.o.subset (h.2 h1 h2)⟩
theorem numT_ext {nt : Nat} {ts ts' : List Nat} {n : Int} (h : 0 ≤ n → n < (nt : Int) → n.toNat ∈ ts) (e : ts <+: ts') : numT nt ts' n = numT nt ts n := by
  unfold numT
  split
  · rename_i q
    exact posN_pre e (h q.1 q.2)
  · rfl
theorem numV_ext {nt : Nat} {O : List Ob} {m m' : List Nat × List Nat} {v : Int × Int} (h : Hv nt O m v) (e : Ext m m') : numV nt O m' v = numV nt O m v := by
  unfold numV
  split
  · rename_i q
    rw [numT_ext (h.1 q) e.t]
  · rename_i q
    split
    · rename_i q2
      rw [posN_pre e.o (h.2 q q2)]
    · rfl
theorem numVs_ext (nt : Nat) (O : List Ob) : ∀ (l : List (Int × Int)) (m m' : List Nat × List Nat), Ext (metVs nt O m l) m' → numVs nt O m l = l.map (numV nt O m')
  | [], m, m', e => rfl
  | v :: r, m, m', e => by
    show numV nt O (metV nt O m v) v :: numVs nt O (metV nt O m v) r = numV nt O m' v :: r.map (numV nt O m')
    rw [numVs_ext nt O r (metV nt O m v) m' e, numV_ext (Hv.self nt O m v) ((Ext.vs nt O r _).trans e)]
/-- Values that were met, with more behind them. -/
theorem Hvs (nt : Nat) (O : List Ob) : ∀ (l : List (Int × Int)) (m m' : List Nat × List Nat), Ext (metVs nt O m l) m' → ∀ v ∈ l, Hv nt O m' v
  | [], m, m', e, v, hv => by simp at hv
  | a :: r, m, m', e, v, hv => by
    rcases List.mem_cons.1 hv with rfl | hv
    · exact (Hv.self nt O m v).ext ((Ext.vs nt O r _).trans e)
    · exact Hvs nt O r (metV nt O m a) m' e v hv
theorem Hms (nt : Nat) (O : List Ob) : ∀ (l : List Fm) (m m' : List Nat × List Nat), Ext (metM nt O m l) m' → ∀ f ∈ l, ∀ v ∈ f.sl, Hv nt O m' v
  | [], m, m', e, f, hf => by simp at hf
  | a :: r, m, m', e, f, hf => by
    rcases List.mem_cons.1 hf with rfl | hf
    · exact Hvs nt O f.sl m m' ((Ext.ms nt O r _).trans e)
    · exact Hms nt O r (metVs nt O m a.sl) m' e f hf
theorem Hfs (nt : Nat) (O : List Ob) : ∀ (l : List (List Fm)) (m m' : List Nat × List Nat), Ext (metF nt O m l) m' → ∀ b ∈ l, ∀ f ∈ b, ∀ v ∈ f.sl, Hv nt O m' v
  | [], m, m', e, f, hf => by simp at hf
  | a :: r, m, m', e, f, hf => by
    rcases List.mem_cons.1 hf with rfl | hf
    · exact Hms nt O f m m' ((Ext.fs nt O r _).trans e)
    · exact Hfs nt O r (metM nt O m a) m' e f hf
def renM (nt : Nat) (O : List Ob) (m : List Nat × List Nat) (f : Fm) : Fm := { f with sl := f.sl.map (numV nt O m) }
def renO (nt : Nat) (O : List Ob) (m : List Nat × List Nat) (o : Ob) : Ob := { o with its := o.its.map (numV nt O m), keys := if o.kind = 7 then o.keys.map (numT nt m.1) else o.keys }
theorem numM_ext (nt : Nat) (O : List Ob) : ∀ (l : List Fm) (m m' : List Nat × List Nat), Ext (metM nt O m l) m' → numM nt O m l = l.map (renM nt O m')
  | [], m, m', e => rfl
  | v :: r, m, m', e => by
    show _ :: numM nt O (metVs nt O m v.sl) r = renM nt O m' v :: r.map (renM nt O m')
    rw [numM_ext nt O r (metVs nt O m v.sl) m' e, numVs_ext nt O v.sl m m' ((Ext.ms nt O r _).trans e)]
    rfl
theorem numF_ext (nt : Nat) (O : List Ob) : ∀ (l : List (List Fm)) (m m' : List Nat × List Nat), Ext (metF nt O m l) m' → numF nt O m l = l.map (fun b => b.map (renM nt O m'))
  | [], m, m', e => rfl
  | v :: r, m, m', e => by
    show _ :: numF nt O (metM nt O m v) r = v.map (renM nt O m') :: r.map (fun b => b.map (renM nt O m'))
    rw [numF_ext nt O r (metM nt O m v) m' e, numM_ext nt O v m m' ((Ext.fs nt O r _).trans e)]
/-- A record's field. -/
def rkey (nt : Nat) (m : List Nat × List Nat) (k : Option Int) : List Nat × List Nat := match k with | some k => (addT nt m.1 k, m.2) | none => m
def ritem (nt : Nat) (O : List Ob) (m : List Nat × List Nat) (v : Option (Int × Int)) : List Nat × List Nat := match v with | some v => metV nt O m v | none => m
theorem recS_met (nt : Nat) (O : List Ob) (m : List Nat × List Nat) (keys : List Int) (its : List (Int × Int)) (i : Nat) : (recS nt O m keys its (i + 1)).1 = ritem nt O (rkey nt (recS nt O m keys its i).1 keys[i]?) its[i]? := by
  simp only [recS]
  cases keys[i]? <;> cases its[i]? <;> rfl
theorem rkey_metV (nt : Nat) (O : List Ob) (m : List Nat × List Nat) (k : Int) : rkey nt m (some k) = metV nt O m (4, k) := by
  unfold rkey metV
  rw [if_pos rfl]
theorem Ext.key (nt : Nat) (m : List Nat × List Nat) (k : Option Int) : Ext m (rkey nt m k) := by
  cases k with
  | none => exact Ext.refl m
  | some k => exact ⟨addT_pre _ _ _, List.prefix_rfl⟩
theorem Ext.item (nt : Nat) (O : List Ob) (m : List Nat × List Nat) (v : Option (Int × Int)) : Ext m (ritem nt O m v) := by
  cases v with
  | none => exact Ext.refl m
  | some v => exact Ext.v nt O m v
theorem Ext.recs (nt : Nat) (O : List Ob) (m : List Nat × List Nat) (keys : List Int) (its : List (Int × Int)) : ∀ i, Ext m (recS nt O m keys its i).1
  | 0 => Ext.refl m
  | i + 1 => by
    rw [recS_met]
    exact (Ext.recs nt O m keys its i).trans ((Ext.key nt _ _).trans (Ext.item nt O _ _))
theorem take_pushE {α : Type} {l : List α} {i : Nat} {x : α} (h : l[i]? = some x) : l.take (i + 1) = l.take i ++ [x] := by
  rw [List.take_add_one, h]
  rfl
theorem take_stayE {α : Type} {l : List α} {i : Nat} (h : l[i]? = none) : l.take (i + 1) = l.take i := by
  rw [List.take_add_one, h]
  simp
theorem recS_ext (nt : Nat) (O : List Ob) (m : List Nat × List Nat) (keys : List Int) (its : List (Int × Int)) : ∀ (i : Nat) (m' : List Nat × List Nat), Ext (recS nt O m keys its i).1 m' →
    (recS nt O m keys its i).2.1 = (keys.take i).map (numT nt m'.1) ∧ (recS nt O m keys its i).2.2 = (its.take i).map (numV nt O m') ∧ (∀ k ∈ keys.take i, 0 ≤ k → k < (nt : Int) → k.toNat ∈ m'.1) ∧ ∀ v ∈ its.take i, Hv nt O m' v
  | 0, m', e => ⟨by simp [recS], by simp [recS], by simp, by simp⟩
  | i + 1, m', e => by
    rw [recS_met] at e
    have e1 : Ext (rkey nt (recS nt O m keys its i).1 keys[i]?) m' := (Ext.item nt O _ _).trans e
    obtain ⟨h1, h2, h3, h4⟩ := recS_ext nt O m keys its i m' ((Ext.key nt _ _).trans e1)
    have a : (recS nt O m keys its (i + 1)).2.1 = (keys.take (i + 1)).map (numT nt m'.1) ∧ ∀ k ∈ keys.take (i + 1), 0 ≤ k → k < (nt : Int) → k.toNat ∈ m'.1 := by
      rcases hk : keys[i]? with _ | k
      · rw [take_stayE hk]
        refine ⟨?_, h3⟩
        rw [← h1]
        simp only [recS, hk]
      · rw [hk] at e1
        have hm : 0 ≤ k → k < (nt : Int) → k.toNat ∈ (addT nt (recS nt O m keys its i).1.1 k) := fun q1 q2 => by
          unfold addT
          rw [if_pos ⟨q1, q2⟩]
          exact mem_addN _ _
        rw [take_pushE hk]
        refine ⟨?_, fun x hx => ?_⟩
        · rw [List.map_append, ← h1]
          simp only [recS, hk, List.map_cons, List.map_nil]
          rw [numT_ext hm e1.t]
        · rcases List.mem_append.1 hx with hx | hx
          · exact h3 x hx
          · simp at hx
            subst hx
            exact fun q1 q2 => e1.t.subset (hm q1 q2)
    have b : (recS nt O m keys its (i + 1)).2.2 = (its.take (i + 1)).map (numV nt O m') ∧ ∀ v ∈ its.take (i + 1), Hv nt O m' v := by
      rcases hv : its[i]? with _ | v
      · rw [take_stayE hv]
        refine ⟨?_, h4⟩
        rw [← h2]
        simp only [recS, hv]
      · rw [hv] at e
        rw [take_pushE hv]
        have key : (recS nt O m keys its (i + 1)).2.2 = (recS nt O m keys its i).2.2 ++ [numV nt O (metV nt O (rkey nt (recS nt O m keys its i).1 keys[i]?) v) v] := by
          simp only [recS, hv]
          cases keys[i]? <;> rfl
        refine ⟨?_, fun x hx => ?_⟩
        · rw [key, List.map_append, ← h2, List.map_cons, List.map_nil, numV_ext (Hv.self nt O _ v) e]
        · rcases List.mem_append.1 hx with hx | hx
          · exact h4 x hx
          · simp at hx
            subst hx
            exact (Hv.self nt O _ x).ext e
    exact ⟨a.1, b.1, a.2, b.2⟩
theorem Ext.ob (nt : Nat) (O : List Ob) (m : List Nat × List Nat) (o : Ob) : Ext m (metO nt O m o) := by
  unfold metO
  split
  · exact Ext.recs nt O m _ _ _
  · exact Ext.vs nt O _ m
theorem numO_ext (nt : Nat) (O : List Ob) (o : Ob) (m m' : List Nat × List Nat) (e : Ext (metO nt O m o) m') : numO nt O m o = renO nt O m' o ∧ (∀ v ∈ o.its, Hv nt O m' v) ∧ (o.kind = 7 → ∀ k ∈ o.keys, 0 ≤ k → k < (nt : Int) → k.toNat ∈ m'.1) := by
  unfold metO at e
  unfold numO renO
  by_cases hk : o.kind = 7
  · rw [if_pos hk] at e
    rw [if_pos hk, if_pos hk]
    obtain ⟨h1, h2, h3, h4⟩ := recS_ext nt O m o.keys o.its _ m' e
    rw [List.take_of_length_le (by omega)] at h1 h2 h3 h4
    exact ⟨by rw [h1, h2], h4, fun _ => h3⟩
  · rw [if_neg hk] at e
    rw [if_neg hk, if_neg hk]
    exact ⟨by rw [numVs_ext nt O o.its m m' e], Hvs nt O o.its m m' e, fun q => absurd q hk⟩
def nob : Ob := ⟨0, [], [], 0, 0, false⟩
theorem Ext.wl (nt : Nat) (O : List Ob) (m : List Nat × List Nat) (i : Nat) : Ext (wl nt O m i).1 (wl nt O m (i + 1)).1 := by
  simp only [Ytadgiccfjppnfaa.wl]
  split
  · exact Ext.ob nt O _ _
  · exact Ext.refl _
theorem Ext.wl0 (nt : Nat) (O : List Ob) (m : List Nat × List Nat) : ∀ (i : Nat), Ext m (Ytadgiccfjppnfaa.wl nt O m i).1
  | 0 => Ext.refl m
  | i + 1 => (Ext.wl0 nt O m i).trans (Ext.wl nt O m i)
theorem wl_ext (nt : Nat) (O : List Ob) (m : List Nat × List Nat) (hm : MOk nt O.length m) : ∀ (i : Nat) (m' : List Nat × List Nat), Ext (wl nt O m i).1 m' →
    (wl nt O m i).2 = ((wl nt O m i).1.2.take i).map (fun j => renO nt O m' (O.getD j nob)) ∧
      ∀ j ∈ (wl nt O m i).1.2.take i, (∀ v ∈ (O.getD j nob).its, Hv nt O m' v) ∧ ((O.getD j nob).kind = 7 → ∀ k ∈ (O.getD j nob).keys, 0 ≤ k → k < (nt : Int) → k.toNat ∈ m'.1)
  | 0, m', e => ⟨by simp [wl], by simp⟩
  | i + 1, m', e => by
    have e0 := (Ext.wl nt O m i)
    obtain ⟨h1, h2⟩ := wl_ext nt O m hm i m' (e0.trans e)
    have hok := MOk.wl hm i
    rcases hj : (wl nt O m i).1.2[i]? with _ | j
    · have hst : wl nt O m (i + 1) = wl nt O m i := by
        simp only [wl, hj]
        rfl
      rw [hst, take_stayE hj]
      exact ⟨h1, h2⟩
    · have hjl : j < O.length := hok.b2 j (List.mem_of_getElem? hj)
      have ho : O[j]? = some O[j] := List.getElem?_eq_getElem hjl
      have hg : O.getD j nob = O[j] := by rw [List.getD_eq_getElem?_getD, ho]; rfl
      have hs := wl_some (m := m) hj ho
      have hne := numO_ext nt O O[j] (wl nt O m i).1 m' (by rw [hs] at e; exact e)
      have htk : (wl nt O m (i + 1)).1.2.take (i + 1) = (wl nt O m i).1.2.take i ++ [j] := by
        obtain ⟨r, hr⟩ := e0.o
        have hi := (List.getElem?_eq_some_iff.1 hj).1
        rw [← hr, take_pushE (x := j) (by rw [List.getElem?_append_left hi]; exact hj), List.take_append_of_le_length (by omega)]
      rw [htk, hs]
      refine ⟨?_, fun x hx => ?_⟩
      · simp only [List.map_append, List.map_cons, List.map_nil]
        rw [h1, hne.1, hg]
      · rcases List.mem_append.1 hx with hx | hx
        · exact h2 x hx
        · simp at hx
          subst hx
          rw [hg]
          exact hne.2
/-- The state that the program finds, out of all that was met. -/
def canP (s : St) (m : List Nat × List Nat) : St :=
  { s with texts := m.1.map (fun i => s.texts.getD i ByteArray.empty), objs := m.2.map (fun j => renO s.texts.length s.objs m (s.objs.getD j nob)), fibs := s.fibs.map (fun b => b.map (renM s.texts.length s.objs m)) }
/-- What is met in all, when the walk has come to its end. -/
def metA (s : St) : List Nat × List Nat := (wl s.texts.length s.objs (metF s.texts.length s.objs ([], []) s.fibs) s.objs.length).1
theorem MOk.nil (nt no : Nat) : MOk nt no ([], []) := ⟨by simp, by simp, by simp, by simp⟩
theorem metA_ok (s : St) : MOk s.texts.length s.objs.length (metA s) := MOk.wl (MOk.fs s.fibs (MOk.nil _ _)) _
theorem metA_stop (s : St) {L : Nat} (h : (wl s.texts.length s.objs (metF s.texts.length s.objs ([], []) s.fibs) L).1.2.length = L) : metA s = (wl s.texts.length s.objs (metF s.texts.length s.objs ([], []) s.fibs) L).1 := by
  have hok := MOk.wl (MOk.fs s.fibs (MOk.nil s.texts.length s.objs.length)) L
  have hle := pigeon _ _ hok.d2 hok.b2
  have := wl_stop (nt := s.texts.length) (O := s.objs) (m := metF s.texts.length s.objs ([], []) s.fibs) (i := L) (by omega) (s.objs.length - L)
  unfold metA
  rw [← this, show L + (s.objs.length - L) = s.objs.length by omega]
theorem canD_eq (s : St) : canD s = canP s (metA s) := by
  have hok := metA_ok s
  have hle := pigeon _ _ hok.d2 hok.b2
  have h1 := wl_ext s.texts.length s.objs (metF s.texts.length s.objs ([], []) s.fibs) (MOk.fs s.fibs (MOk.nil _ _)) s.objs.length (metA s) (Ext.refl _)
  have ht : (wl s.texts.length s.objs (metF s.texts.length s.objs ([], []) s.fibs) s.objs.length).1.2.take s.objs.length = (metA s).2 := List.take_of_length_le hle
  rw [ht] at h1
  unfold canD canP
  simp only
  rw [h1.1, numF_ext s.texts.length s.objs s.fibs ([], []) (metA s) (Ext.wl0 _ _ _ _)]
  rfl
/-- All that the program asks for new numbers has been met. -/
theorem metA_slots (s : St) : ∀ b ∈ s.fibs, ∀ f ∈ b, ∀ v ∈ f.sl, Hv s.texts.length s.objs (metA s) v :=
  Hfs s.texts.length s.objs s.fibs ([], []) (metA s) (Ext.wl0 _ _ _ _)
theorem metA_objs (s : St) : ∀ j ∈ (metA s).2, (∀ v ∈ (s.objs.getD j nob).its, Hv s.texts.length s.objs (metA s) v) ∧ ((s.objs.getD j nob).kind = 7 → ∀ k ∈ (s.objs.getD j nob).keys, 0 ≤ k → k < (s.texts.length : Int) → k.toNat ∈ (metA s).1) := by
  have hok := metA_ok s
  have hle := pigeon _ _ hok.d2 hok.b2
  have h1 := wl_ext s.texts.length s.objs (metF s.texts.length s.objs ([], []) s.fibs) (MOk.fs s.fibs (MOk.nil _ _)) s.objs.length (metA s) (Ext.refl _)
  have ht : (wl s.texts.length s.objs (metF s.texts.length s.objs ([], []) s.fibs) s.objs.length).1.2.take s.objs.length = (metA s).2 := List.take_of_length_le hle
  rw [ht] at h1
  exact h1.2
end Go.Proofs.Ytadgiccfjppnfaa
