/-
  Two writers, the document's two rows, and what was handed out.
-/
import Derived.Test.YtpenhefhedmhiaaWRef
namespace Go.Proofs.Ytpenhefhedmhiaa
open Go.RowKit

def updF {α : Type} (f : Nat → α) (k : Nat) (x : α) : Nat → α := fun j => if j = k then x else f j
theorem updF_at {α : Type} (f : Nat → α) (k : Nat) (x : α) : updF f k x k = x := if_pos rfl
theorem updF_ne {α : Type} (f : Nat → α) {k j : Nat} (x : α) (h : j ≠ k) : updF f k x j = f j := if_neg h
theorem updF_range {α : Type} (f : Nat → α) (m k : Nat) (x : α) (h : m ≤ k) : (List.range m).map (updF f k x) = (List.range m).map f := by
  apply List.map_congr_left
  intro j hj
  exact updF_ne _ _ (by have := List.mem_range.1 hj; omega)

/-- The blocks of all the rows: the writers' two, the document's two, the row of what was handed out, and what was handed out. -/
def fam (V A : Nat → Value) (told : Value) (R : Nat → Value) (n i : Nat) : Option Nat :=
  if i < 2 then (V i).ownBlock else if i < 4 then (A (i - 2)).ownBlock else if i = 4 then told.ownBlock else if i - 5 < n then (R (i - 5)).ownBlock else none
section
variable {V A : Nat → Value} {told : Value} {R : Nat → Value} {n : Nat}
theorem fam_V {k : Nat} (h : k < 2) : fam V A told R n k = (V k).ownBlock := if_pos h
theorem fam_A {k : Nat} (h : k < 2) : fam V A told R n (k + 2) = (A k).ownBlock := by
  unfold fam
  rw [if_neg (by omega), if_pos (by omega), Nat.add_sub_cancel]
theorem fam_T : fam V A told R n 4 = told.ownBlock := by
  unfold fam
  rw [if_neg (by omega), if_neg (by omega), if_pos rfl]
theorem fam_R {j : Nat} (h : j < n) : fam V A told R n (j + 5) = (R j).ownBlock := by
  unfold fam
  rw [if_neg (by omega), if_neg (by omega), if_neg (by omega), Nat.add_sub_cancel, if_pos h]
theorem fam_no {j : Nat} (h : n ≤ j) : fam V A told R n (j + 5) = none := by
  unfold fam
  rw [if_neg (by omega), if_neg (by omega), if_neg (by omega), Nat.add_sub_cancel, if_neg (by omega)]
theorem fam_case (i : Nat) : (∃ k, k < 2 ∧ i = k) ∨ (∃ k, k < 2 ∧ i = k + 2) ∨ i = 4 ∨ ∃ j, i = j + 5 := by
  by_cases h : i < 2
  · exact .inl ⟨i, h, rfl⟩
  · by_cases h2 : i < 4
    · exact .inr (.inl ⟨i - 2, by omega, by omega⟩)
    · by_cases h3 : i = 4
      · exact .inr (.inr (.inl h3))
      · exact .inr (.inr (.inr ⟨i - 5, by omega⟩))
end
/-- No two lie in one block. -/
def Ap (f : Nat → Option Nat) : Prop := ∀ i j b, i ≠ j → f i = some b → f j ≠ some b
theorem Ap.put {f g : Nat → Option Nat} (h : Ap f) {x s : Nat} (hg : ∀ i, i ≠ x → g i = f i) (hl : ∀ i b, f i = some b → b < s) (hx : g x = f x ∨ ∀ b, g x = some b → s ≤ b) : Ap g := by
  rcases hx with hx | hx
  · have e : g = f := by
      funext i
      by_cases q : i = x
      · rw [q]; exact hx
      · exact hg i q
    rw [e]; exact h
  · intro i j b hij h1 h2
    by_cases q : i = x
    · subst q
      rw [hg j (fun e => hij e.symm)] at h2
      have := hl j b h2
      have := hx b h1
      omega
    · rw [hg i q] at h1
      by_cases q2 : j = x
      · subst q2
        have := hl i b h1
        have := hx b h2
        omega
      · rw [hg j q2] at h2
        exact h i j b hij h1 h2

/-- What holds between two calls. -/
structure WV (w W : World) (P : Nat → Nat) (bx : Nat) (V A : Nat → Value) (bs cs : Nat → List Int) (told : Value) (m : Nat) (R : Nat → Value) (n : Nat) (xss : Nat → List Int) (wr : World) : Prop where
  wt : ∀ k, k < 2 → Wtr wr (P k) (V k) (bs k)
  al : ∀ k, k < 2 → wr.ownsRow W.heap.size 5 1 (A k) (cs k).length ((cs k).map By)
  bxc : ∀ k, k < 2 → wr.cell? ⟨bx, k, none⟩ = some (A k)
  bxf : ∀ k, k < 2 → wr.frozen? ⟨bx, k, none⟩ = false
  tow : wr.ownsRow W.heap.size 25 1 told m ((List.range m).map R)
  mn : m ≤ n
  rows : ∀ j, j < n → wr.ownsRow W.heap.size 5 1 (R j) (xss j).length ((xss j).map By)
  xl : ∀ j, (xss j).length ≤ 16777216
  ap : Ap (fam V A told R n)
  lo : ∀ i b, fam V A told R n i = some b → W.heap.size ≤ b
  pl : ∀ k, k < 2 → w.heap.size ≤ P k ∧ P k < W.heap.size
  pp : ∀ j k, j < 2 → k < 2 → j ≠ k → P j ≠ P k
  bp : ∀ k, k < 2 → bx ≠ P k
  bl : w.heap.size ≤ bx ∧ bx < wr.heap.size
  ba : ∀ i, fam V A told R n i ≠ some bx
  bel : Below w.heap.size w wr
  fr : W.heap.size ≤ wr.heap.size
  wW : w.heap.size ≤ W.heap.size

section
variable {w W wr w' : World} {P : Nat → Nat} {bx : Nat} {V A : Nat → Value} {bs cs : Nat → List Int} {told : Value} {m : Nat} {R : Nat → Value} {n : Nat} {xss : Nat → List Int}

theorem WV.hi (h : WV w W P bx V A bs cs told m R n xss wr) (i b : Nat) (hb : fam V A told R n i = some b) : b < wr.heap.size := by
  rcases fam_case i with ⟨k, hk, rfl⟩ | ⟨k, hk, rfl⟩ | rfl | ⟨j, rfl⟩
  · rw [fam_V hk] at hb
    exact (h.wt _ hk).row_lt b hb
  · rw [fam_A hk] at hb
    exact ((h.al _ hk).lt b hb).2
  · rw [fam_T] at hb
    exact (h.tow.lt b hb).2
  · by_cases q : j < n
    · rw [fam_R q] at hb
      exact ((h.rows j q).lt b hb).2
    · rw [fam_no (by omega)] at hb
      cases hb

/-- Nothing of all this is touched. -/
theorem WV.keep (h : WV w W P bx V A bs cs told m R n xss wr) {S : Nat → Prop} (f : Fr S wr w') (hP : ∀ k, k < 2 → ¬ S (P k)) (hB : ¬ S bx) (hF : ∀ i b, fam V A told R n i = some b → ¬ S b) (hw : ∀ b, b < w.heap.size → ¬ S b) : WV w W P bx V A bs cs told m R n xss w' :=
  ⟨fun k hk => (h.wt k hk).keep f (hP k hk) (fun b e => hF k b (by rw [fam_V hk]; exact e)),
    fun k hk => own_keepT (h.al k hk) (fun g hg => f.block g ((h.al k hk).lt g hg).2 (hF (k + 2) g (by rw [fam_A hk]; exact hg))),
    fun k hk => (f.cell (a := ⟨bx, k, none⟩) h.bl.2 hB).trans (h.bxc k hk), fun k hk => (f.frozen (a := ⟨bx, k, none⟩) h.bl.2 hB).trans (h.bxf k hk),
    own_keepT h.tow (fun g hg => f.block g (h.tow.lt g hg).2 (hF 4 g (by rw [fam_T]; exact hg))), h.mn,
    fun j hj => own_keepT (h.rows j hj) (fun g hg => f.block g ((h.rows j hj).lt g hg).2 (hF (j + 5) g (by rw [fam_R hj]; exact hg))),
    h.xl, h.ap, h.lo, h.pl, h.pp, h.bp, ⟨h.bl.1, Nat.lt_of_lt_of_le h.bl.2 f.size⟩, h.ba, h.bel.trans (f.below h.bel.size hw), Nat.le_trans h.fr f.size, h.wW⟩
theorem WV.below (h : WV w W P bx V A bs cs told m R n xss wr) (f : Below wr.heap.size wr w') : WV w W P bx V A bs cs told m R n xss w' :=
  h.keep (Fr.of_below (S := fun _ => False) f) (fun _ _ e => e) (fun e => e) (fun _ _ _ e => e) (fun _ _ e => e)
theorem WV.drewN (h : WV w W P bx V A bs cs told m R n xss wr) (k : Nat) : WV w W P bx V A bs cs told m R n xss (wr.drewN k) :=
  h.keep (Fr.drewN (S := fun _ => False) k) (fun _ _ e => e) (fun e => e) (fun _ _ _ e => e) (fun _ _ e => e)
theorem WV.alloc (h : WV w W P bx V A bs cs told m R n xss wr) (o : Obj) : WV w W P bx V A bs cs told m R n xss (wr.alloc o) :=
  h.below ((Below.refl _ _).alloc (Nat.le_refl _) o)

/-- Behind a call of the writer k. -/
theorem WV.wrote (h : WV w W P bx V A bs cs told m R n xss wr) {k : Nat} (hk : k < 2) {v' : Value} {bs' : List Int} (h2 : Wtr w' (P k) v' bs') (s : WStep (P k) wr (V k) w' v') :
    WV w W P bx (updF V k v') A (updF bs k bs') cs told m R n xss w' := by
  have f := s.fr
  have hfr := h.fr
  have hoff : ∀ i b, i ≠ k → fam V A told R n i = some b → ¬ Foot (P k) (V k) b := fun i b hi hb q => by
    rcases q with q | q
    · have := h.lo i b hb
      have := (h.pl k hk).2
      omega
    · exact h.ap i k b hi hb (by rw [fam_V hk]; exact q)
  have hsame : ∀ i, i ≠ k → fam (updF V k v') A told R n i = fam V A told R n i := fun i hi => by
    unfold fam
    rw [updF_ne _ _ hi]
  have hnew : fam (updF V k v') A told R n k = fam V A told R n k ∨ ∀ b, fam (updF V k v') A told R n k = some b → wr.heap.size ≤ b := by
    rw [fam_V hk, fam_V hk, updF_at]
    exact s.row
  have hB : ¬ Foot (P k) (V k) bx := fun q => by
    rcases q with q | q
    · exact h.bp k hk q
    · exact h.ba k (by rw [fam_V hk]; exact q)
  refine ⟨fun j hj => ?_,
    fun j hj => own_keepT (h.al j hj) (fun g hg => f.block g ((h.al j hj).lt g hg).2 (hoff (j + 2) g (by omega) (by rw [fam_A hj]; exact hg))),
    fun j hj => (f.cell (a := ⟨bx, j, none⟩) h.bl.2 hB).trans (h.bxc j hj), fun j hj => (f.frozen (a := ⟨bx, j, none⟩) h.bl.2 hB).trans (h.bxf j hj),
    own_keepT h.tow (fun g hg => f.block g (h.tow.lt g hg).2 (hoff 4 g (by omega) (by rw [fam_T]; exact hg))), h.mn,
    fun j hj => own_keepT (h.rows j hj) (fun g hg => f.block g ((h.rows j hj).lt g hg).2 (hoff (j + 5) g (by omega) (by rw [fam_R hj]; exact hg))),
    h.xl, h.ap.put hsame h.hi hnew, fun i b hb => ?_, h.pl, h.pp, h.bp, ⟨h.bl.1, Nat.lt_of_lt_of_le h.bl.2 f.size⟩, fun i hb => ?_, h.bel.trans (f.below h.bel.size (fun b hb q => ?_)), Nat.le_trans hfr f.size, h.wW⟩
  · by_cases e : j = k
    · subst e
      rw [updF_at, updF_at]
      exact h2
    · rw [updF_ne _ _ e, updF_ne _ _ e]
      exact (h.wt j hj).keep f (fun q => by
        rcases q with q | q
        · exact h.pp j k hj hk e q
        · have := h.lo k (P j) (by rw [fam_V hk]; exact q)
          have := (h.pl j hj).2
          omega) (fun b hb => hoff j b e (by rw [fam_V hj]; exact hb))
  · by_cases q : i = k
    · subst q
      rcases hnew with e | e
      · exact h.lo i b (by rw [← e]; exact hb)
      · have := e b hb; omega
    · rw [hsame i q] at hb
      exact h.lo i b hb
  · by_cases q : i = k
    · subst q
      rcases hnew with e | e
      · exact h.ba i (by rw [← e]; exact hb)
      · have := e bx hb
        have := h.bl.2
        omega
    · rw [hsame i q] at hb
      exact h.ba i hb
  · have hw := h.wW
    rcases q with q | q
    · have := (h.pl k hk).1; omega
    · have := h.lo k b (by rw [fam_V hk]; exact q)
      omega

/-- Behind the growing of the document's row k, and the store of what it gave. -/
theorem WV.grew (h : WV w W P bx V A bs cs told m R n xss wr) {k : Nat} (hk : k < 2) {l : Value} {cs' : List Int} (g : RG W.heap.size (A k) wr l cs' w') :
    WV w W P bx V (updF A k l) bs (updF cs k cs') told m R n xss (w'.setCell ⟨bx, k, none⟩ l) := by
  have f0 := g.fr
  have hfr := h.fr
  have hz : (w'.setCell ⟨bx, k, none⟩ l).heap.size = w'.heap.size := by simp [World.setCell]
  have f : Fr (fun b => (A k).ownBlock = some b ∨ b = bx) wr (w'.setCell ⟨bx, k, none⟩ l) := (f0.mono (fun b _ q => .inl q)).setCell ⟨bx, k, none⟩ (.inr (.inr rfl)) _
  have hbA : (A k).ownBlock ≠ some bx := fun q => h.ba (k + 2) (by rw [fam_A hk]; exact q)
  have hoff : ∀ i b, i ≠ k + 2 → fam V A told R n i = some b → ¬ ((A k).ownBlock = some b ∨ b = bx) := fun i b hi hb q => by
    rcases q with q | q
    · exact h.ap i (k + 2) b hi hb (by rw [fam_A hk]; exact q)
    · subst q
      exact h.ba i hb
  have hsame : ∀ i, i ≠ k + 2 → fam V (updF A k l) told R n i = fam V A told R n i := fun i hi => by
    unfold fam
    by_cases q : i < 2
    · rw [if_pos q, if_pos q]
    · rw [if_neg q, if_neg q, updF_ne _ _ (by omega)]
  have hnew : fam V (updF A k l) told R n (k + 2) = fam V A told R n (k + 2) ∨ ∀ b, fam V (updF A k l) told R n (k + 2) = some b → wr.heap.size ≤ b := by
    rw [fam_A hk, fam_A hk, updF_at]
    rcases g.at' with q | ⟨b, q, hb⟩
    · exact .inl q
    · refine .inr (fun b2 e => ?_)
      rw [q] at e
      simp only [Option.some.injEq] at e
      omega
  have hlb : l.ownBlock ≠ some bx := fun q => by
    rcases g.at' with e | ⟨b, e, hb⟩
    · exact hbA (e.symm.trans q)
    · rw [e] at q
      simp only [Option.some.injEq] at q
      have := h.bl.2
      omega
  have hP : ∀ j, j < 2 → ¬ ((A k).ownBlock = some (P j) ∨ P j = bx) := fun j hj q => by
    rcases q with q | q
    · have := h.lo (k + 2) (P j) (by rw [fam_A hk]; exact q)
      have := (h.pl j hj).2
      omega
    · exact h.bp j hj q.symm
  have c0 : ∀ j, j < 2 → w'.cell? ⟨bx, j, none⟩ = some (A j) := fun j hj => (f0.cell (a := ⟨bx, j, none⟩) h.bl.2 hbA).trans (h.bxc j hj)
  refine ⟨fun j hj => (h.wt j hj).keep f (hP j hj) (fun b hb => hoff j b (by omega) (by rw [fam_V hj]; exact hb)), fun j hj => ?_, fun j hj => ?_, fun j hj => ?_,
    own_keepT h.tow (fun g hg => f.block g (h.tow.lt g hg).2 (hoff 4 g (by omega) (by rw [fam_T]; exact hg))), h.mn,
    fun j hj => own_keepT (h.rows j hj) (fun g hg => f.block g ((h.rows j hj).lt g hg).2 (hoff (j + 5) g (by omega) (by rw [fam_R hj]; exact hg))),
    h.xl, h.ap.put hsame h.hi hnew, fun i b hb => ?_, h.pl, h.pp, h.bp, ⟨h.bl.1, Nat.lt_of_lt_of_le h.bl.2 f.size⟩, fun i hb => ?_, h.bel.trans (f.below h.bel.size (fun b hb q => ?_)), Nat.le_trans hfr f.size, h.wW⟩
  · by_cases e : j = k
    · subst e
      rw [updF_at, updF_at]
      exact own_set_far g.own _ hlb _
    · rw [updF_ne _ _ e, updF_ne _ _ e]
      exact own_keepT (h.al j hj) (fun g hg => f.block g ((h.al j hj).lt g hg).2 (hoff (j + 2) g (by omega) (by rw [fam_A hj]; exact hg)))
  · by_cases e : j = k
    · subst e
      rw [updF_at]
      exact World.cell?_setCell_same _ _ _ (c0 j hj)
    · rw [updF_ne _ _ e, World.cell?_setCell_other _ _ _ _ (fun e2 => by simp at e2 <;> omega)]
      exact c0 j hj
  · rw [World.frozen?_setCell]
    exact (f0.frozen (a := ⟨bx, j, none⟩) h.bl.2 hbA).trans (h.bxf j hj)
  · by_cases q : i = k + 2
    · subst q
      rcases hnew with e | e
      · exact h.lo _ b (by rw [← e]; exact hb)
      · have := e b hb; omega
    · rw [hsame i q] at hb
      exact h.lo i b hb
  · by_cases q : i = k + 2
    · subst q
      rcases hnew with e | e
      · exact h.ba _ (by rw [← e]; exact hb)
      · have := e bx hb
        have := h.bl.2
        omega
    · rw [hsame i q] at hb
      exact h.ba i hb
  · have hw := h.wW
    rcases q with q | q
    · have := h.lo (k + 2) b (by rw [fam_A hk]; exact q)
      omega
    · have := h.bl.1; omega

/-- A row that is handed out. -/
theorem WV.handed (h : WV w W P bx V A bs cs told m R n xss wr) {d : Value} {xs : List Int} (hd : w'.ownsRow wr.heap.size 5 1 d xs.length (xs.map By)) (f : Below wr.heap.size wr w') (hx : xs.length ≤ 16777216) :
    WV w W P bx V A bs cs told m (updF R n d) (n + 1) (updF xss n xs) w' := by
  have h1 := h.below f
  have hfr := h.fr
  have hsame : ∀ i, i ≠ n + 5 → fam V A told (updF R n d) (n + 1) i = fam V A told R n i := fun i hi => by
    rcases fam_case i with ⟨k, hk, rfl⟩ | ⟨k, hk, rfl⟩ | rfl | ⟨j, rfl⟩
    · rw [fam_V hk, fam_V hk]
    · rw [fam_A hk, fam_A hk]
    · rw [fam_T, fam_T]
    · by_cases q : j < n
      · rw [fam_R q, fam_R (by omega), updF_ne _ _ (by omega)]
      · rw [fam_no (by omega), fam_no (by omega)]
  have hnew : ∀ b, fam V A told (updF R n d) (n + 1) (n + 5) = some b → wr.heap.size ≤ b := fun b hb => by
    rw [fam_R (by omega), updF_at] at hb
    exact (hd.lt b hb).1
  refine ⟨h1.wt, h1.al, h1.bxc, h1.bxf, by rw [updF_range _ _ _ _ h.mn]; exact h1.tow, Nat.le_succ_of_le h.mn, fun j hj => ?_, fun j => ?_, h.ap.put hsame h.hi (.inr hnew), fun i b hb => ?_, h1.pl, h1.pp, h1.bp, h1.bl, fun i hb => ?_, h1.bel, h1.fr, h1.wW⟩
  · by_cases e : j = n
    · subst e
      rw [updF_at, updF_at]
      exact own_mono hd hfr
    · rw [updF_ne _ _ e, updF_ne _ _ e]
      exact h1.rows j (by omega)
  · by_cases e : j = n
    · subst e
      rw [updF_at]
      exact hx
    · rw [updF_ne _ _ e]
      exact h.xl j
  · by_cases q : i = n + 5
    · subst q
      have := hnew b hb
      omega
    · rw [hsame i q] at hb
      exact h.lo i b hb
  · by_cases q : i = n + 5
    · subst q
      have := hnew bx hb
      have := h.bl.2
      omega
    · rw [hsame i q] at hb
      exact h.ba i hb

/-- The next one is laid into the row of what was handed out. -/
theorem WV.pushed (h : WV w W P bx V A bs cs told m R n xss wr) (hm : m < n) {o : Obj} {told' : Value} (hown : w'.ownsRow W.heap.size 25 1 told' (m + 1) ((List.range m).map R ++ [R m]))
    (hg : (wr.alloc o).grownBy w' told.ownBlock) (hat : told'.ownBlock = told.ownBlock ∨ told'.ownBlock = some (wr.heap.size + 1)) :
    WV w W P bx V A bs cs told' (m + 1) R n xss w' := by
  have hfr := h.fr
  have f : Fr (fun b => told.ownBlock = some b) wr w' := (((Fr.refl (fun b => told.ownBlock = some b) wr).alloc o)).grown hg (fun b e => .inr e)
  have hoff : ∀ i b, i ≠ 4 → fam V A told R n i = some b → ¬ told.ownBlock = some b := fun i b hi hb q => h.ap i 4 b hi hb (by rw [fam_T]; exact q)
  have hsame : ∀ i, i ≠ 4 → fam V A told' R n i = fam V A told R n i := fun i hi => by
    unfold fam
    rw [if_neg hi, if_neg hi]
  have hnew : fam V A told' R n 4 = fam V A told R n 4 ∨ ∀ b, fam V A told' R n 4 = some b → wr.heap.size ≤ b := by
    rw [fam_T, fam_T]
    rcases hat with q | q
    · exact .inl q
    · refine .inr (fun b e => ?_)
      rw [q] at e
      simp only [Option.some.injEq] at e
      omega
  have hB : ¬ told.ownBlock = some bx := fun q => h.ba 4 (by rw [fam_T]; exact q)
  refine ⟨fun j hj => (h.wt j hj).keep f (fun q => ?_) (fun b hb => hoff j b (by omega) (by rw [fam_V hj]; exact hb)),
    fun j hj => own_keepT (h.al j hj) (fun g hg => f.block g ((h.al j hj).lt g hg).2 (hoff (j + 2) g (by omega) (by rw [fam_A hj]; exact hg))),
    fun j hj => (f.cell (a := ⟨bx, j, none⟩) h.bl.2 hB).trans (h.bxc j hj), fun j hj => (f.frozen (a := ⟨bx, j, none⟩) h.bl.2 hB).trans (h.bxf j hj),
    by rw [List.range_succ, List.map_append]; exact hown, hm,
    fun j hj => own_keepT (h.rows j hj) (fun g hg => f.block g ((h.rows j hj).lt g hg).2 (hoff (j + 5) g (by omega) (by rw [fam_R hj]; exact hg))),
    h.xl, h.ap.put hsame h.hi hnew, fun i b hb => ?_, h.pl, h.pp, h.bp, ⟨h.bl.1, Nat.lt_of_lt_of_le h.bl.2 f.size⟩, fun i hb => ?_, h.bel.trans (f.below h.bel.size (fun b hb q => ?_)), Nat.le_trans hfr f.size, h.wW⟩
  · have := h.lo 4 (P j) (by rw [fam_T]; exact q)
    have := (h.pl j hj).2
    omega
  · by_cases q : i = 4
    · subst q
      rcases hnew with e | e
      · exact h.lo _ b (by rw [← e]; exact hb)
      · have := e b hb; omega
    · rw [hsame i q] at hb
      exact h.lo i b hb
  · by_cases q : i = 4
    · subst q
      rcases hnew with e | e
      · exact h.ba _ (by rw [← e]; exact hb)
      · have := e bx hb
        have := h.bl.2
        omega
    · rw [hsame i q] at hb
      exact h.ba i hb
  · have hw := h.wW
    have := h.lo 4 b (by rw [fam_T]; exact q)
    omega

/-- Another box with the same two rows. -/
theorem WV.rebox (h : WV w W P bx V A bs cs told m R n xss wr) : WV w W P wr.heap.size V A bs cs told m R n xss (wr.alloc (.cells #[A 0, A 1] 35)) := by
  have h1 := h.alloc (.cells #[A 0, A 1] 35)
  have hfr := h.fr
  have hc2 : ∀ k, k < 2 → k = 0 ∨ k = 1 := fun k hk => by omega
  refine ⟨h1.wt, h1.al, fun k hk => ?_, fun k hk => ?_, h1.tow, h1.mn, h1.rows, h1.xl, h1.ap, h1.lo, h1.pl, h1.pp, fun k hk q => ?_, ⟨h.bel.size, by simp⟩, fun i q => ?_, h1.bel, h1.fr, h1.wW⟩
  · rw [cell_of_row _ _ k _ 35 (0, 0) (heap_alloc_new wr _)]
    rcases hc2 k hk with rfl | rfl <;> rfl
  · unfold World.frozen?
    rw [heap_alloc_new wr _]
    simp
  · have := (h.pl k hk).2
    omega
  · have := h.hi i _ q
    omega

/-- Behind Apart: what was handed out is written over. -/
theorem WV.spent (h : WV w W P bx V A bs cs told m R n xss wr) {S : Nat → Prop} (f : Fr S wr w') (hS : ∀ b, S b → ∃ j, j < n ∧ (R j).ownBlock = some b) (k : Nat) (hk : k < 2) :
    Wtr w' (P k) (V k) (bs k) ∧ w'.ownsRow W.heap.size 5 1 (A k) (cs k).length ((cs k).map By) ∧ w'.cell? ⟨bx, k, none⟩ = some (A k) ∧ Below w.heap.size w w' := by
  have hoff : ∀ i b, i < 5 → fam V A told R n i = some b → ¬ S b := fun i b hi hb q => by
    obtain ⟨j, hj, e⟩ := hS b q
    exact h.ap i (j + 5) b (by omega) hb (by rw [fam_R hj]; exact e)
  have hlo : ∀ b, b < W.heap.size → ¬ S b := fun b hb q => by
    obtain ⟨j, hj, e⟩ := hS b q
    have := h.lo (j + 5) b (by rw [fam_R hj]; exact e)
    omega
  have hw := h.wW
  refine ⟨(h.wt k hk).keep f (hlo _ (h.pl k hk).2) (fun b hb => hoff k b (by omega) (by rw [fam_V hk]; exact hb)),
    own_keepT (h.al k hk) (fun g hg => f.block g ((h.al k hk).lt g hg).2 (hoff (k + 2) g (by omega) (by rw [fam_A hk]; exact hg))),
    (f.cell (a := ⟨bx, k, none⟩) h.bl.2 (fun q => ?_)).trans (h.bxc k hk), h.bel.trans (f.below h.bel.size (fun b hb => hlo b (by omega)))⟩
  obtain ⟨j, hj, e⟩ := hS bx q
  exact h.ba (j + 5) (by rw [fam_R hj]; exact e)

/-- What Apart is told. -/
theorem WV.forApart (h : WV w W P bx V A bs cs told n R n xss wr) : RdV wr told ((List.range n).map R) ∧ Mkd wr W.heap.size ((List.range n).map R) (fun j => (xss j).length) 0 0 wr ∧
    (∀ j b, j < ((List.range n).map R).length → (((List.range n).map R).getD j (.slice none 0 0)).ownBlock = some b → b < wr.heap.size) ∧ (∀ j, j < n → ((List.range n).map R).getD j (.slice none 0 0) = R j) ∧ ((List.range n).map R).length = n := by
  have hl : ((List.range n).map R).length = n := by simp
  have hg : ∀ j, j < n → ((List.range n).map R).getD j (.slice none 0 0) = R j := fun j hj => by
    rw [List.getD_eq_getElem?_getD, List.getElem?_map, List.getElem?_range hj]
    rfl
  refine ⟨?_, ⟨xss, ⟨fun k hk => ?_, fun k k' b hk hk' hne e1 e2 => ?_, Fr.refl _ _⟩, fun _ => rfl, fun k' hk' => by omega, fun j hj => by omega⟩, fun j b hj e => ?_, hg, hl⟩
  · have ht := h.tow
    rcases ht.2 with ⟨q1, q2⟩ | ⟨g, cap, cu, q1, _⟩
    · refine ⟨none, 0, by rw [q1, hl, q2], fun i hi => by rw [hl] at hi; omega⟩
    · refine ⟨some ⟨g, 0, none⟩, cap, by rw [q1, hl], fun i hi => ⟨g, 0, rfl, (ht.lt g (by rw [q1]; rfl)).2, ?_, fun k hk e => ?_⟩⟩
      · have := ht.cells (g := g) (by rw [q1]; rfl) i (((List.range n).map R).getD i (.slice none 0 0)) (by rw [List.getD_eq_getElem?_getD, List.getElem?_eq_getElem hi]; rfl)
        rw [addr_add0] at this
        rw [Nat.zero_add]
        exact this
      · rw [hl] at hk
        rw [hg k hk] at e
        exact h.ap (k + 5) 4 g (by omega) (by rw [fam_R hk]; exact e) (by rw [fam_T, q1]; rfl)
  · rw [hl] at hk
    rw [hg k hk]
    exact h.rows k hk
  · rw [hl] at hk hk'
    rw [hg k hk] at e1
    rw [hg k' hk'] at e2
    exact h.ap (k + 5) (k' + 5) b (by omega) (by rw [fam_R hk]; exact e1) (by rw [fam_R hk']; exact e2)
  · rw [hl] at hj
    rw [hg j hj] at e
    exact ((h.rows j hj).lt b e).2
end
end Go.Proofs.Ytpenhefhedmhiaa
