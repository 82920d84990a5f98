/-
  The document's book: what was met.
-/
import Derived.Test.YtadgiccfjppnfaaNm
import Derived.Test.YtadgiccfjppnfaaOwn
namespace Go.Proofs.Ytadgiccfjppnfaa
open Go.RowKit
set_option linter.unusedVariables false
set_option linter.unusedSimpArgs false
/-- One number more, if it isn't there; where a number stands (-1: nowhere). -/
def addN (l : List Nat) (n : Nat) : List Nat := if n ∈ l then l else l ++ [n]
def posN (l : List Nat) (n : Nat) : Int := if n ∈ l then (l.idxOf n : Int) else -1
def enN (n : Nat) : List Value := [.int .i64 (n : Int)]
theorem zN : ∀ p, (enN p).length = 1 := fun _ => rfl
theorem posN_self {l : List Nat} {n : Nat} (h : n ∉ l) : posN (l ++ [n]) n = l.length := by
  unfold posN
  rw [if_pos (by simp), List.idxOf_append, if_neg h]
  simp
theorem posN_other {l : List Nat} {n m : Nat} (h : m ≠ n) : posN (l ++ [n]) m = posN l m := by
  unfold posN
  by_cases hm : m ∈ l
  · rw [if_pos (by simp [hm]), if_pos hm, List.idxOf_append, if_pos hm]
  · rw [if_neg (by simp [hm, h]), if_neg hm]
theorem posN_neg {l : List Nat} {n : Nat} : posN l n < 0 ↔ n ∉ l := by
  unfold posN
  by_cases h : n ∈ l
  · rw [if_pos h]; simp [h]
  · rw [if_neg h]; simp [h]
theorem posN_le {l : List Nat} {n : Nat} : posN l n ≤ l.length := by
  unfold posN
  split
  · have := List.idxOf_le_length (l := l) (a := n); omega
  · omega
/-- The row of places of all numbers below nt. -/
def allP (nt : Nat) (l : List Nat) : List Int := (List.range nt).map (posN l)
theorem allP_length (nt : Nat) (l : List Nat) : (allP nt l).length = nt := by simp [allP]
theorem allP_at {nt : Nat} {l : List Nat} {n : Nat} (h : n < nt) : (allP nt l)[n]? = some (posN l n) := by simp [allP, h]
theorem allP_set {nt : Nat} {l : List Nat} {n : Nat} (h : n ∉ l) (hn : n < nt) : (allP nt l).set n (l.length : Int) = allP nt (l ++ [n]) := by
  apply List.ext_getElem?
  intro i
  by_cases hi : i < nt
  · rw [allP_at hi, List.getElem?_set]
    by_cases e : n = i
    · subst e; rw [if_pos rfl, if_pos (by rw [allP_length]; exact hn), posN_self h]
    · rw [if_neg e, allP_at hi, posN_other (fun q => e q.symm)]
  · rw [List.getElem?_eq_none (by rw [List.length_set, allP_length]; omega), List.getElem?_eq_none (by rw [allP_length]; omega)]
/-- The book's blocks. -/
def bkb (c : Nat → Value) (bb k : Nat) : Prop := k = bb ∨ ∃ i, 7 ≤ i ∧ i ≤ 10 ∧ (c i).ownBlock = some k
def bkC (c : Nat → Value) : Array Value := #[c 0, c 1, c 2, c 3, c 4, c 5, c 6, c 7, c 8, c 9, c 10]
def upd (c : Nat → Value) (i : Nat) (v : Value) : Nat → Value := fun j => if j = i then v else c j
/-- The book in memory. -/
structure BkM (B bb nt no : Nat) (c : Nat → Value) (w : World) (ts os : List Nat) : Prop where
  box : w.heap[bb]? = some (.cells (bkC c) 66)
  hb : B ≤ bb
  r1 : Ro w 1 (c 7) ts.length (flt enN ts)
  r2 : Ro w 1 (c 8) os.length (flt enN os)
  r3 : Ro w 1 (c 9) nt (flt enL (allP nt ts))
  r4 : Ro w 1 (c 10) no (flt enL (allP no os))
  fb : ∀ i k, 7 ≤ i → i ≤ 10 → (c i).ownBlock = some k → B ≤ k ∧ k ≠ bb
  ap : ∀ i j k, 7 ≤ i → i ≤ 10 → 7 ≤ j → j ≤ 10 → i ≠ j → (c i).ownBlock = some k → (c j).ownBlock ≠ some k
theorem BkM.fr {B bb nt no : Nat} {c : Nat → Value} {w w' : World} {ts os : List Nat} {S : Nat → Prop} (h : BkM B bb nt no c w ts os) (f : Fr S w w') (hS : ∀ k, bkb c bb k → ¬ S k) : BkM B bb nt no c w' ts os :=
  ⟨(f.block bb (Array.getElem?_eq_some_iff.1 h.box).1 (hS bb (.inl rfl))).trans h.box, h.hb, h.r1.fr f (fun k hk => hS k (.inr ⟨7, by omega, by omega, hk⟩)), h.r2.fr f (fun k hk => hS k (.inr ⟨8, by omega, by omega, hk⟩)), h.r3.fr f (fun k hk => hS k (.inr ⟨9, by omega, by omega, hk⟩)), h.r4.fr f (fun k hk => hS k (.inr ⟨10, by omega, by omega, hk⟩)), h.fb, h.ap⟩
theorem BkM.below {B bb nt no : Nat} {c : Nat → Value} {w w' : World} {ts os : List Nat} (h : BkM B bb nt no c w ts os) (f : Below w.heap.size w w') : BkM B bb nt no c w' ts os := h.fr (Fr.of_below (S := fun _ => False) f) (fun _ _ e => e)
/-- One row of it, by its number. -/
theorem BkM.in {B bb nt no : Nat} {c : Nat → Value} {w : World} {ts os : List Nat} (h : BkM B bb nt no c w ts os) {k : Nat} (hk : bkb c bb k) : B ≤ k ∧ k < w.heap.size := by
  rcases hk with rfl | ⟨i, h1, h2, hk⟩
  · exact ⟨h.hb, (Array.getElem?_eq_some_iff.1 h.box).1⟩
  · refine ⟨(h.fb i k h1 h2 hk).1, ?_⟩
    have hi : i = 7 ∨ i = 8 ∨ i = 9 ∨ i = 10 := by omega
    rcases hi with rfl | rfl | rfl | rfl
    · exact h.r1.lt k hk
    · exact h.r2.lt k hk
    · exact h.r3.lt k hk
    · exact h.r4.lt k hk
theorem setC {w : World} {bb : Nat} {c : Nat → Value} (h : w.heap[bb]? = some (.cells (bkC c) 66)) (i : Nat) (hi : i ≤ 10) (v : Value) : (w.setCell ⟨bb, i, none⟩ v).heap[bb]? = some (.cells (bkC (upd c i v)) 66) := by
  rw [setCell_block h v]
  congr 1
  congr 1
  have : i = 0 ∨ i = 1 ∨ i = 2 ∨ i = 3 ∨ i = 4 ∨ i = 5 ∨ i = 6 ∨ i = 7 ∨ i = 8 ∨ i = 9 ∨ i = 10 := by omega
  rcases this with rfl | rfl | rfl | rfl | rfl | rfl | rfl | rfl | rfl | rfl | rfl <;> rfl
/-- A text is met: its place is set, its number laid behind the others, the list put into the book. -/
theorem BkM.meetT {B bb nt no : Nat} {c : Nat → Value} {w w2 : World} {ts os : List Nat} (h : BkM B bb nt no c w ts os) {n g off m cap : Nat} (hn : n ∉ ts) (hnt : n < nt) (e : c 9 = .slice (some ⟨g, off, none⟩) m cap) {v' : Value} {O : Obj} {q : Nat}
    (hr : Ro w2 1 v' q (flt enN ts ++ enN n)) (hq : q = ts.length + 1) (hg : ((w.setCell ⟨g, off + n, none⟩ (.int .i64 (ts.length : Int))).alloc O).grownBy w2 (c 7).ownBlock) (hat : v'.ownBlock = (c 7).ownBlock ∨ v'.ownBlock = some ((w.setCell ⟨g, off + n, none⟩ (.int .i64 (ts.length : Int))).alloc O).heap.size) :
    BkM B bb nt no (upd c 7 v') (w2.setCell ⟨bb, 7, none⟩ v') (ts ++ [n]) os ∧ Fr (bkb c bb) w (w2.setCell ⟨bb, 7, none⟩ v') ∧ (∀ k, bkb (upd c 7 v') bb k → bkb c bb k ∨ w.heap.size ≤ k) ∧ w2.heap[bb]? = some (.cells (bkC c) 66) ∧ Ro w2 1 (c 9) nt (flt enL (allP nt (ts ++ [n]))) := by
  subst hq
  have hg9 : (c 9).ownBlock = some g := by rw [e]; rfl
  obtain ⟨_, _, e0, _⟩ := h.r3.shape
  have hm : m = nt := by rw [e] at e0; cases e0; rfl
  subst hm
  obtain ⟨s3, f3⟩ := h.r3.put1 zL e (i := n) (c := 0) (u := .int .i64 (ts.length : Int)) (x' := (ts.length : Int)) (allP_at hnt) (by omega) (by simp [enL])
  rw [Nat.mul_one, Nat.add_zero, allP_set hn hnt] at s3
  rw [Nat.mul_one, Nat.add_zero] at f3
  have fg : Fr (fun k => k = g ∨ (c 7).ownBlock = some k) w w2 := ((f3.mono (fun k _ e => .inl e)).alloc O).grown hg (fun k e => .inr (.inr e))
  have fg2 : Fr (fun k => (c 7).ownBlock = some k) (w.setCell ⟨g, off + n, none⟩ (.int .i64 (ts.length : Int))) w2 := ((Fr.refl _ _).alloc O).grown hg (fun k e => .inr e)
  have hsz : (w.setCell ⟨g, off + n, none⟩ (.int .i64 (ts.length : Int))).heap.size = w.heap.size := by simp [World.setCell]
  have hbb := (Array.getElem?_eq_some_iff.1 h.box).1
  have hs2 := fg.size
  have b2 : w2.heap[bb]? = some (.cells (bkC c) 66) := (fg.block bb hbb (fun q => by
    rcases q with q | q
    · exact (h.fb 9 g (by omega) (by omega) hg9).2 q.symm
    · exact (h.fb 7 bb (by omega) (by omega) q).2 rfl)).trans h.box
  have fb2 : Fr (fun k => k = bb) w2 (w2.setCell ⟨bb, 7, none⟩ v') := (Fr.refl (fun k => k = bb) w2).setCell ⟨bb, 7, none⟩ (.inr rfl) v'
  have hv' : ∀ k, v'.ownBlock = some k → (c 7).ownBlock = some k ∨ w.heap.size ≤ k := fun k hk => by
    rcases hat with q | q
    · exact .inl (q ▸ hk)
    · rw [q] at hk; cases hk; right; rw [World.size_alloc, hsz]; omega
  have hneb : ∀ k, v'.ownBlock = some k → k ≠ bb := fun k hk e => by
    rcases hv' k hk with q | q
    · exact (h.fb 7 k (by omega) (by omega) q).2 e
    · omega
  refine ⟨⟨setC b2 7 (by omega) v', h.hb, ?_, ?_, ?_, ?_, fun i k h1 h2 hk => ?_, fun i j k h1 h2 h3 h4 hij hk => ?_⟩, ?_, fun k hk => ?_, b2, s3.fr fg2 (fun k hk q => h.ap 9 7 k (by omega) (by omega) (by omega) (by omega) (by omega) hk q)⟩
  · show Ro _ 1 v' _ _
    rw [List.length_append, flt_append, flt_one]
    exact hr.fr fb2 (fun k hk e => hneb k hk e)
  · exact (h.r2.fr fg (fun k hk q => by
      rcases q with q | q
      · exact h.ap 8 9 k (by omega) (by omega) (by omega) (by omega) (by omega) hk (by rw [hg9, q])
      · exact h.ap 8 7 k (by omega) (by omega) (by omega) (by omega) (by omega) hk q)).fr fb2 (fun k hk e => (h.fb 8 k (by omega) (by omega) hk).2 e)
  · exact (s3.fr fg2 (fun k hk q => h.ap 9 7 k (by omega) (by omega) (by omega) (by omega) (by omega) hk q)).fr fb2 (fun k hk e => (h.fb 9 k (by omega) (by omega) hk).2 e)
  · exact (h.r4.fr fg (fun k hk q => by
      rcases q with q | q
      · exact h.ap 10 9 k (by omega) (by omega) (by omega) (by omega) (by omega) hk (by rw [hg9, q])
      · exact h.ap 10 7 k (by omega) (by omega) (by omega) (by omega) (by omega) hk q)).fr fb2 (fun k hk e => (h.fb 10 k (by omega) (by omega) hk).2 e)
  · unfold upd at hk
    by_cases hi : i = 7
    · rw [if_pos hi] at hk
      refine ⟨?_, hneb k hk⟩
      rcases hv' k hk with q | q
      · exact (h.fb 7 k (by omega) (by omega) q).1
      · have := h.hb; omega
    · rw [if_neg hi] at hk
      exact h.fb i k h1 h2 hk
  · unfold upd at hk ⊢
    have hlt : ∀ i k, 7 ≤ i → i ≤ 10 → (c i).ownBlock = some k → k < w.heap.size := fun i k h1 h2 hk => (h.in (.inr ⟨i, h1, h2, hk⟩)).2
    by_cases hi : i = 7
    · rw [if_pos hi] at hk
      rw [if_neg (by omega)]
      rcases hv' k hk with q | q
      · exact h.ap 7 j k (by omega) (by omega) h3 h4 (by omega) q
      · exact fun e => by have := hlt j k h3 h4 e; omega
    · rw [if_neg hi] at hk
      by_cases hj : j = 7
      · rw [if_pos hj]
        intro e
        rcases hv' k e with q | q
        · exact h.ap i 7 k h1 h2 (by omega) (by omega) hi hk q
        · have := hlt i k h1 h2 hk; omega
      · rw [if_neg hj]
        exact h.ap i j k h1 h2 h3 h4 hij hk
  · refine (fg.mono (fun k _ q => ?_)).trans (fb2.mono (fun k _ q => .inl q))
    rcases q with q | q
    · exact .inr ⟨9, by omega, by omega, by rw [hg9, q]⟩
    · exact .inr ⟨7, by omega, by omega, q⟩
  · rcases hk with rfl | ⟨i, h1, h2, hk⟩
    · exact .inl (.inl rfl)
    · unfold upd at hk
      by_cases hi : i = 7
      · rw [if_pos hi] at hk
        rcases hv' k hk with q | q
        · exact .inl (.inr ⟨7, by omega, by omega, q⟩)
        · exact .inr q
      · rw [if_neg hi] at hk
        exact .inl (.inr ⟨i, h1, h2, hk⟩)
/-- An object is met: its place is set, its number laid behind the others, the list put into the book. -/
theorem BkM.meetO {B bb nt no : Nat} {c : Nat → Value} {w w2 : World} {ts os : List Nat} (h : BkM B bb nt no c w ts os) {n g off m cap : Nat} (hn : n ∉ os) (hno : n < no) (e : c 10 = .slice (some ⟨g, off, none⟩) m cap) {v' : Value} {O : Obj} {q : Nat}
    (hr : Ro w2 1 v' q (flt enN os ++ enN n)) (hq : q = os.length + 1) (hg : ((w.setCell ⟨g, off + n, none⟩ (.int .i64 (os.length : Int))).alloc O).grownBy w2 (c 8).ownBlock) (hat : v'.ownBlock = (c 8).ownBlock ∨ v'.ownBlock = some ((w.setCell ⟨g, off + n, none⟩ (.int .i64 (os.length : Int))).alloc O).heap.size) :
    BkM B bb nt no (upd c 8 v') (w2.setCell ⟨bb, 8, none⟩ v') ts (os ++ [n]) ∧ Fr (bkb c bb) w (w2.setCell ⟨bb, 8, none⟩ v') ∧ (∀ k, bkb (upd c 8 v') bb k → bkb c bb k ∨ w.heap.size ≤ k) ∧ w2.heap[bb]? = some (.cells (bkC c) 66) ∧ Ro w2 1 (c 10) no (flt enL (allP no (os ++ [n]))) := by
  subst hq
  have hg9 : (c 10).ownBlock = some g := by rw [e]; rfl
  obtain ⟨_, _, e0, _⟩ := h.r4.shape
  have hm : m = no := by rw [e] at e0; cases e0; rfl
  subst hm
  obtain ⟨s3, f3⟩ := h.r4.put1 zL e (i := n) (c := 0) (u := .int .i64 (os.length : Int)) (x' := (os.length : Int)) (allP_at hno) (by omega) (by simp [enL])
  rw [Nat.mul_one, Nat.add_zero, allP_set hn hno] at s3
  rw [Nat.mul_one, Nat.add_zero] at f3
  have fg : Fr (fun k => k = g ∨ (c 8).ownBlock = some k) w w2 := ((f3.mono (fun k _ e => .inl e)).alloc O).grown hg (fun k e => .inr (.inr e))
  have fg2 : Fr (fun k => (c 8).ownBlock = some k) (w.setCell ⟨g, off + n, none⟩ (.int .i64 (os.length : Int))) w2 := ((Fr.refl _ _).alloc O).grown hg (fun k e => .inr e)
  have hsz : (w.setCell ⟨g, off + n, none⟩ (.int .i64 (os.length : Int))).heap.size = w.heap.size := by simp [World.setCell]
  have hbb := (Array.getElem?_eq_some_iff.1 h.box).1
  have hs2 := fg.size
  have b2 : w2.heap[bb]? = some (.cells (bkC c) 66) := (fg.block bb hbb (fun q => by
    rcases q with q | q
    · exact (h.fb 10 g (by omega) (by omega) hg9).2 q.symm
    · exact (h.fb 8 bb (by omega) (by omega) q).2 rfl)).trans h.box
  have fb2 : Fr (fun k => k = bb) w2 (w2.setCell ⟨bb, 8, none⟩ v') := (Fr.refl (fun k => k = bb) w2).setCell ⟨bb, 8, none⟩ (.inr rfl) v'
  have hv' : ∀ k, v'.ownBlock = some k → (c 8).ownBlock = some k ∨ w.heap.size ≤ k := fun k hk => by
    rcases hat with q | q
    · exact .inl (q ▸ hk)
    · rw [q] at hk; cases hk; right; rw [World.size_alloc, hsz]; omega
  have hneb : ∀ k, v'.ownBlock = some k → k ≠ bb := fun k hk e => by
    rcases hv' k hk with q | q
    · exact (h.fb 8 k (by omega) (by omega) q).2 e
    · omega
  refine ⟨⟨setC b2 8 (by omega) v', h.hb, ?_, ?_, ?_, ?_, fun i k h1 h2 hk => ?_, fun i j k h1 h2 h3 h4 hij hk => ?_⟩, ?_, fun k hk => ?_, b2, s3.fr fg2 (fun k hk q => h.ap 10 8 k (by omega) (by omega) (by omega) (by omega) (by omega) hk q)⟩
  · exact (h.r1.fr fg (fun k hk q => by
      rcases q with q | q
      · exact h.ap 7 10 k (by omega) (by omega) (by omega) (by omega) (by omega) hk (by rw [hg9, q])
      · exact h.ap 7 8 k (by omega) (by omega) (by omega) (by omega) (by omega) hk q)).fr fb2 (fun k hk e => (h.fb 7 k (by omega) (by omega) hk).2 e)
  · show Ro _ 1 v' _ _
    rw [List.length_append, flt_append, flt_one]
    exact hr.fr fb2 (fun k hk e => hneb k hk e)
  · exact (h.r3.fr fg (fun k hk q => by
      rcases q with q | q
      · exact h.ap 9 10 k (by omega) (by omega) (by omega) (by omega) (by omega) hk (by rw [hg9, q])
      · exact h.ap 9 8 k (by omega) (by omega) (by omega) (by omega) (by omega) hk q)).fr fb2 (fun k hk e => (h.fb 9 k (by omega) (by omega) hk).2 e)
  · exact (s3.fr fg2 (fun k hk q => h.ap 10 8 k (by omega) (by omega) (by omega) (by omega) (by omega) hk q)).fr fb2 (fun k hk e => (h.fb 10 k (by omega) (by omega) hk).2 e)
  · unfold upd at hk
    by_cases hi : i = 8
    · rw [if_pos hi] at hk
      refine ⟨?_, hneb k hk⟩
      rcases hv' k hk with q | q
      · exact (h.fb 8 k (by omega) (by omega) q).1
      · have := h.hb; omega
    · rw [if_neg hi] at hk
      exact h.fb i k h1 h2 hk
  · unfold upd at hk ⊢
    have hlt : ∀ i k, 7 ≤ i → i ≤ 10 → (c i).ownBlock = some k → k < w.heap.size := fun i k h1 h2 hk => (h.in (.inr ⟨i, h1, h2, hk⟩)).2
    by_cases hi : i = 8
    · rw [if_pos hi] at hk
      rw [if_neg (by omega)]
      rcases hv' k hk with q | q
      · exact h.ap 8 j k (by omega) (by omega) h3 h4 (by omega) q
      · exact fun e => by have := hlt j k h3 h4 e; omega
    · rw [if_neg hi] at hk
      by_cases hj : j = 8
      · rw [if_pos hj]
        intro e
        rcases hv' k e with q | q
        · exact h.ap i 8 k h1 h2 (by omega) (by omega) hi hk q
        · have := hlt i k h1 h2 hk; omega
      · rw [if_neg hj]
        exact h.ap i j k h1 h2 h3 h4 hij hk
  · refine (fg.mono (fun k _ q => ?_)).trans (fb2.mono (fun k _ q => .inl q))
    rcases q with q | q
    · exact .inr ⟨10, by omega, by omega, by rw [hg9, q]⟩
    · exact .inr ⟨8, by omega, by omega, q⟩
  · rcases hk with rfl | ⟨i, h1, h2, hk⟩
    · exact .inl (.inl rfl)
    · unfold upd at hk
      by_cases hi : i = 8
      · rw [if_pos hi] at hk
        rcases hv' k hk with q | q
        · exact .inl (.inr ⟨8, by omega, by omega, q⟩)
        · exact .inr q
      · rw [if_neg hi] at hk
        exact .inl (.inr ⟨i, h1, h2, hk⟩)
end Go.Proofs.Ytadgiccfjppnfaa
