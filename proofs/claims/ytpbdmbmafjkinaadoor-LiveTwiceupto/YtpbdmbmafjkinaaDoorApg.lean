/-
  Rows that lie apart, of any kind of thing: what stands while they are marked and grown.
-/
import Derived.Test.YtpbdmbmafjkinaaDoorApO
import Derived.Test.YtpbdmbmafjkinaaDoorPri
namespace Go.Proofs.YtpbdmbmafjkinaaDoor.ag
open Go.RowKit
set_option linter.unusedVariables false
set_option linter.unusedSimpArgs false
def mks {T : Type} (mk : Nat → Nat → T) (k n : Nat) : List T := (List.range n).map (mk k)
theorem mks_succ {T : Type} (mk : Nat → Nat → T) (k n : Nat) : mks mk k (n + 1) = mks mk k n ++ [mk k n] := by simp [mks, List.range_succ]
theorem mks_length {T : Type} (mk : Nat → Nat → T) (k n : Nat) : (mks mk k n).length = n := by simp [mks]
theorem mks_at {T : Type} (mk : Nat → Nat → T) (k n i : Nat) (h : i < n) : (mks mk k n)[i]? = some (mk k i) := by simp [mks, h]
theorem mks_take {T : Type} (mk : Nat → Nat → T) (k n m : Nat) (h : n ≤ m) : (mks mk k m).take n = mks mk k n := by
  refine List.ext_getElem? (fun i => ?_)
  rw [List.getElem?_take]
  split
  · rename_i hi
    rw [mks_at mk k m i (by omega), mks_at mk k n i hi]
  · rename_i hi
    rw [List.getElem?_eq_none (by rw [mks_length]; omega)]
/-- What lies there from the beginning. -/
structure AS {T : Type} (en : T → List Value) (sz : Nat) (R : Nat) (w0 : World) (lb lo : Nat) (V : Nat → Value) (N : Nat → Nat) : Prop where
  cell : ∀ k, k < R → w0.cell? ⟨lb, lo + k, none⟩ = some (V k)
  row : ∀ k, k < R → ∃ Q, Q.length = N k ∧ Ro w0 sz (V k) (N k) (flt en Q)
  lbn : ∀ k b, k < R → (V k).ownBlock = some b → b ≠ lb
  ap : ∀ j j' b, j < R → j' < R → j ≠ j' → (V j).ownBlock = some b → (V j').ownBlock ≠ some b
  le : ∀ k, N k ≤ 1048576
  rl : R ≤ 3000000
section
variable {T : Type} {en : T → List Value} {sz : Nat} {mk : Nat → Nat → T} {te : TypeId} {R : Nat} {w0 w : World} {lb lo : Nat} {V : Nat → Value} {N : Nat → Nat}
theorem AS.lt (c : AS en sz R w0 lb lo V N) {k b : Nat} (hk : k < R) (e : (V k).ownBlock = some b) : b < w0.heap.size := by
  obtain ⟨Q, _, h⟩ := c.row k hk
  exact h.lt b e
theorem AS.lbl (c : AS en sz R w0 lb lo V N) {k : Nat} (hk : k < R) : lb < w0.heap.size := World.block_lt_of_cell? _ _ (c.cell k hk)
theorem AS.cellw (c : AS en sz R w0 lb lo V N) (f : Fr (SV R V) w0 w) {k : Nat} (hk : k < R) : w.cell? ⟨lb, lo + k, none⟩ = some (V k) :=
  (f.cell (a := ⟨lb, lo + k, none⟩) (c.lbl hk) (fun ⟨j, hj, e⟩ => c.lbn j lb hj e rfl)).trans (c.cell k hk)

/-- So many rows are marked, and so much of the next. -/
structure M1 {T : Type} (en : T → List Value) (sz : Nat) (mk : Nat → Nat → T) (R : Nat) (w0 : World) (V : Nat → Value) (N : Nat → Nat) (k i : Nat) (w : World) : Prop where
  ex : ∃ Q : Nat → List (T), (∀ j, j < R → (Q j).length = N j ∧ Ro w sz (V j) (N j) (flt en (Q j))) ∧ (∀ j, j < k → j < R → Q j = mks mk j (N j)) ∧ ∀ x, x < i → (Q k)[x]? = some (mk k x)
  fr : Fr (SV R V) w0 w
theorem M1.start (c : AS en sz R w0 lb lo V N) : M1 en sz mk R w0 V N 0 0 w0 := by
  have hex : ∀ k, ∃ Q, k < R → Q.length = N k ∧ Ro w0 sz (V k) (N k) (flt en Q) := fun k => by
    by_cases hk : k < R
    · obtain ⟨Q, h⟩ := c.row k hk
      exact ⟨Q, fun _ => h⟩
    · exact ⟨[], fun h => absurd h hk⟩
  obtain ⟨Q, hQ⟩ := Classical.axiomOfChoice hex
  exact ⟨⟨Q, hQ, fun j hj => by omega, fun x hx => by omega⟩, Fr.refl _ _⟩
theorem M1.next {k : Nat} (h : M1 en sz mk R w0 V N k (N k) w) : M1 en sz mk R w0 V N (k + 1) 0 w := by
  obtain ⟨Q, h1, h2, h3⟩ := h.ex
  refine ⟨⟨Q, h1, fun j hj hjR => ?_, fun x hx => by omega⟩, h.fr⟩
  by_cases e : j = k
  · subst e
    refine List.ext_getElem? (fun i => ?_)
    by_cases hi : i < N j
    · rw [h3 i hi, mks_at mk j (N j) i hi]
    · rw [List.getElem?_eq_none (by rw [(h1 j hjR).1]; omega), List.getElem?_eq_none (by rw [mks_length]; omega)]
  · exact h2 j (by omega) hjR
theorem M1.shape {k i : Nat} (h : M1 en sz mk R w0 V N k i w) {j : Nat} (hj : j < R) : ∃ a cap, V j = .slice a (N j) cap := by
  obtain ⟨Q, h1, _⟩ := h.ex
  obtain ⟨a, cap, e, _⟩ := (h1 j hj).2.shape
  exact ⟨a, cap, e⟩
theorem M1.step (hz : ∀ x, (en x).length = sz) {k i : Nat} (c : AS en sz R w0 lb lo V N) (h : M1 en sz mk R w0 V N k i w) (hk : k < R) (hi : i < N k) : ∃ g off cap, V k = .slice (some ⟨g, off, none⟩) (N k) cap ∧ g < w.heap.size ∧
    (∀ c, c < sz → ∃ u, w.cell? ⟨g, off + i * sz + c, none⟩ = some u) ∧ (∀ j, w.frozen? ⟨g, j, none⟩ = false) ∧ M1 en sz mk R w0 V N k (i + 1) (w.setCells g (off + i * sz) (en (mk k i))) := by
  obtain ⟨Q, h1, h2, h3⟩ := h.ex
  obtain ⟨g, off, cap, e, _, _, hg, hcell⟩ := (h1 k hk).2.full (by omega)
  have hR := (h1 k hk).2
  obtain ⟨p5, p6⟩ := hR.putAt hz (h1 k hk).1 e hi (mk k i)
  have hb : ∀ c, c < sz → i * sz + c < N k * sz := fun c hc => Nat.lt_of_lt_of_le (by rw [Nat.add_mul, Nat.one_mul]; omega : i * sz + c < (i + 1) * sz) (Nat.mul_le_mul_right _ (by omega))
  refine ⟨g, off, cap, e, hg, fun c hc => ?_, fun q => hR.free e q, ⟨⟨fun j => if j = k then (Q k).set i (mk k i) else Q j, fun j hj => ?_, fun j hj hjR => ?_, fun x hx => ?_⟩, h.fr.trans (p6.mono (fun b _ q => ⟨k, hk, by rw [e, q]; rfl⟩))⟩⟩
  · rw [Nat.add_assoc, hcell _ (hb c hc)]
    exact ⟨_, List.getElem?_eq_getElem (by rw [hR.1]; exact hb c hc)⟩
  · by_cases q : j = k
    · subst q
      simp only [if_pos]
      exact ⟨by rw [List.length_set]; exact (h1 j hk).1, p5⟩
    · simp only [if_neg q]
      exact ⟨(h1 j hj).1, Ro.fr (h1 j hj).2 p6 (fun b hb (q2 : b = g) => c.ap j k b hj hk q hb (by rw [e, q2]; rfl))⟩
  · simp only [if_neg (show ¬ j = k by omega)]
    exact h2 j hj hjR
  · simp only [if_pos]
    by_cases q : x = i
    · subst q
      rw [List.getElem?_set_self (by rw [(h1 k hk).1]; exact hi)]
    · rw [List.getElem?_set_ne (fun e => q e.symm)]
      exact h3 x (by omega)

structure G1 {T : Type} (en : T → List Value) (sz : Nat) (mk : Nat → Nat → T) (te : TypeId) (R : Nat) (w0 : World) (V : Nat → Value) (N : Nat → Nat) (k : Nat) (cur : Nat → Value) (gs : Value) (w : World) : Prop where
  ls : ∀ j, j < R → Ro w sz (V j) (N j) (flt en (mks mk j (N j)))
  cr : ∀ j, j < k → Ro w sz (cur j) (N j + 64) (flt en (mks mk j (N j + 64)))
  rel : ∀ j, j < k → Rl w0 (V j) (N j) 64 (cur j)
  dis : ∀ j j' b, j < k → j' < k → j ≠ j' → (cur j).ownBlock = some b → (cur j').ownBlock ≠ some b
  gr : w.ownsRow w0.heap.size te 1 gs k ((List.range k).map cur)
  gdis : ∀ j b, j < k → gs.ownBlock = some b → (cur j).ownBlock ≠ some b
  fr : Fr (SV R V) w0 w
structure G2 {T : Type} (en : T → List Value) (sz : Nat) (mk : Nat → Nat → T) (te : TypeId) (R : Nat) (w0 : World) (V : Nat → Value) (N : Nat → Nat) (k i : Nat) (c : Value) (cur : Nat → Value) (gs : Value) (w : World) : Prop where
  g1 : G1 en sz mk te R w0 V N k cur gs w
  cc : Ro w sz c (N k + i) (flt en (mks mk k (N k + i)))
  crel : Rl w0 (V k) (N k) i c
  cdis : ∀ j b, j < k → (cur j).ownBlock = some b → c.ownBlock ≠ some b
  cg : ∀ b, gs.ownBlock = some b → c.ownBlock ≠ some b
theorem G1.start (h : M1 en sz mk R w0 V N R 0 w) (cur : Nat → Value) : G1 en sz mk te R w0 V N 0 cur (.slice none 0 0) w := by
  obtain ⟨Q, h1, h2, h3⟩ := h.ex
  refine ⟨fun j hj => ?_, fun j hj => by omega, fun j hj => by omega, fun j j' b hj => by omega, World.ownsRow_nil _ _ _ _, fun j b hj => by omega, h.fr⟩
  have := (h1 j hj).2
  rwa [h2 j hj hj] at this
theorem G1.open {k : Nat} {cur : Nat → Value} {gs : Value} (c : AS en sz R w0 lb lo V N) (h : G1 en sz mk te R w0 V N k cur gs w) (hk : k < R) : G2 en sz mk te R w0 V N k 0 (V k) cur gs w := by
  refine ⟨h, by simpa using h.ls k hk, .inl ⟨rfl, rfl⟩, fun j b hj e q => ?_, fun b e q => ?_⟩
  · rcases (h.rel j hj).own e with r | r
    · exact c.ap j k b (by omega) hk (by omega) r q
    · have := c.lt hk q; omega
  · have := (h.gr.lt b e).1
    have := c.lt hk q
    omega
theorem G2.step (hz : ∀ x, (en x).length = sz) {k i : Nat} {c0 v' : Value} {cur : Nat → Value} {gs : Value} {w' : World} {X : Obj} (c : AS en sz R w0 lb lo V N) (h : G2 en sz mk te R w0 V N k i c0 cur gs w) (hk : k < R)
    (hr : Ro w' sz v' (N k + i + 1) (flt en (mks mk k (N k + i) ++ [mk k (N k + i)]))) (hg : (w.alloc X).grownBy w' c0.ownBlock)
    (hat : (∃ g off cap, c0 = .slice (some ⟨g, off, none⟩) (N k + i) cap ∧ v' = .slice (some ⟨g, off, none⟩) (N k + i + 1) cap) ∨ v'.ownBlock = some (w.alloc X).heap.size) (hold : Ro w' sz c0 (N k + i) (flt en (mks mk k (N k + i)))) : G2 en sz mk te R w0 V N k (i + 1) v' cur gs w' := by
  have f : Fr (fun b => c0.ownBlock = some b) w w' := ((Fr.refl _ w).alloc X).grown hg (fun b e => .inr e)
  have hsz := h.g1.fr.size
  have hro : Ro w' sz v' (N k + (i + 1)) (flt en (mks mk k (N k + (i + 1)))) := by
    rw [show N k + (i + 1) = (N k + i) + 1 by omega, mks_succ]
    exact hr
  have hX : (w.alloc X).heap.size = w.heap.size + 1 := by simp
  have own' : ∀ b, v'.ownBlock = some b → c0.ownBlock = some b ∨ w.heap.size < b := fun b e => by
    rcases hat with ⟨g, off, cap, e1, e2⟩ | e2
    · rw [e2] at e; rw [e1]; exact .inl e
    · rw [e2] at e; cases e; right; omega
  have hls : ∀ j, j < R → Ro w' sz (V j) (N j) (flt en (mks mk j (N j))) := fun j hj => by
    by_cases q : j = k
    · subst q
      rcases h.crel with ⟨e0, e1⟩ | ⟨g, off, cap, e1, e2⟩ | ⟨b, e1, hb⟩
      · subst e0
        rw [← e1]
        simpa using hold
      · rw [e2] at hold
        have := hold.upto rfl (k := N j) (by omega)
        rw [flt_take hz, mks_take mk j (N j) _ (by omega)] at this
        rw [e1]
        exact this
      · exact Ro.fr (h.g1.ls j hj) f (fun b' hb' e => by
          rw [e1] at e
          cases e
          have := c.lt hj hb'
          omega)
    · exact Ro.fr (h.g1.ls j hj) f (fun b hb e => by
        rcases h.crel.own e with r | r
        · exact c.ap j k b hj hk q hb r
        · have := c.lt hj hb; omega)
  refine ⟨⟨hls, fun j hj => Ro.fr (h.g1.cr j hj) f (fun b hb e => h.cdis j b hj hb e), h.g1.rel, h.g1.dis, own_keepT h.g1.gr (fun b hb => f.block b (h.g1.gr.lt b hb).2 (fun e => h.cg b hb e)), h.g1.gdis, h.g1.fr.trans2 f (fun b hb e => ?_)⟩, hro, ?_, fun j b hj e q => ?_, fun b e q => ?_⟩
  · rcases h.crel.own e with r | r
    · exact ⟨k, hk, r⟩
    · omega
  · rcases hat with ⟨g, off, cap, e1, e2⟩ | e2
    · rcases h.crel with ⟨e0, e3⟩ | ⟨g', off', cap', e3, e4⟩ | ⟨b, e3, hb⟩
      · right; left
        subst e0
        exact ⟨g, off, cap, by rw [← e3, e1]; rfl, e2⟩
      · right; left
        rw [e4] at e1
        cases e1
        exact ⟨_, _, _, e3, e2⟩
      · right; right
        rw [e1] at e3
        exact ⟨b, by rw [e2]; exact e3, hb⟩
    · right; right
      exact ⟨_, e2, by omega⟩
  · rcases own' b q with r | r
    · exact h.cdis j b hj e r
    · have := (h.g1.cr j hj).lt b e; omega
  · rcases own' b q with r | r
    · exact h.cg b e r
    · have := (h.g1.gr.lt b e).2; omega
theorem G2.push {k : Nat} {c0 gs' : Value} {cur : Nat → Value} {gs : Value} {w' : World} {X : Obj} (c : AS en sz R w0 lb lo V N) (h : G2 en sz mk te R w0 V N k 64 c0 cur gs w) (hk : k < R)
    (hown : w'.ownsRow w0.heap.size te 1 gs' (k + 1) ((List.range k).map cur ++ [c0])) (hg : (w.alloc X).grownBy w' gs.ownBlock) (hat : gs'.ownBlock = gs.ownBlock ∨ gs'.ownBlock = some (w.heap.size + 1)) : G1 en sz mk te R w0 V N (k + 1) (updV cur k c0) gs' w' := by
  have f : Fr (fun b => gs.ownBlock = some b) w w' := ((Fr.refl _ w).alloc X).grown hg (fun b e => .inr e)
  have hsz := h.g1.fr.size
  have gsb : ∀ b, gs.ownBlock = some b → w0.heap.size ≤ b := fun b e => (h.g1.gr.lt b e).1
  have cu : ∀ j, j < k + 1 → j ≠ k → updV cur k c0 j = cur j ∧ j < k := fun j hj hn => ⟨updV_ne _ _ hn, by omega⟩
  refine ⟨fun j hj => Ro.fr (h.g1.ls j hj) f (fun b hb e => by have := c.lt hj hb; have := gsb b e; omega), fun j hj => ?_, fun j hj => ?_, fun j j' b hj hj' hn e q => ?_, ?_, fun j b hj e q => ?_, h.g1.fr.trans2 f (fun b hb e => by have := gsb b e; omega)⟩
  · by_cases q : j = k
    · subst q
      rw [updV_at]
      exact Ro.fr h.cc f (fun b hb e => h.cg b e hb)
    · obtain ⟨e, hjk⟩ := cu j hj q
      rw [e]
      exact Ro.fr (h.g1.cr j hjk) f (fun b hb e => h.g1.gdis j b hjk e hb)
  · by_cases q : j = k
    · subst q
      rw [updV_at]
      exact h.crel
    · obtain ⟨e, hjk⟩ := cu j hj q
      rw [e]
      exact h.g1.rel j hjk
  · by_cases q1 : j = k
    · subst q1
      rw [updV_at] at e
      obtain ⟨e2, hjk⟩ := cu j' hj' (by omega)
      rw [e2] at q
      exact h.cdis j' b hjk q e
    · obtain ⟨e2, hjk⟩ := cu j hj q1
      rw [e2] at e
      by_cases q2 : j' = k
      · subst q2
        rw [updV_at] at q
        exact h.cdis j b hjk e q
      · obtain ⟨e3, hjk'⟩ := cu j' hj' q2
        rw [e3] at q
        exact h.g1.dis j j' b hjk hjk' hn e q
  · rw [List.range_succ, List.map_append, updV_range]
    simpa [updV_at] using hown
  · have hc : ∀ b, (updV cur k c0 j).ownBlock = some b → b < w.heap.size ∧ gs.ownBlock ≠ some b := fun b e => by
      by_cases q1 : j = k
      · subst q1
        rw [updV_at] at e
        exact ⟨h.cc.lt b e, fun q => h.cg b q e⟩
      · obtain ⟨e2, hjk⟩ := cu j hj q1
        rw [e2] at e
        exact ⟨(h.g1.cr j hjk).lt b e, fun q => h.g1.gdis j b hjk q e⟩
    obtain ⟨z1, z2⟩ := hc b q
    rcases hat with r | r
    · exact z2 (r ▸ e)
    · rw [r] at e; cases e; omega
end
end Go.Proofs.YtpbdmbmafjkinaaDoor.ag
