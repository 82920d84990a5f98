/-
  A profile is read: its parts.
-/
import Derived.Test.YtaldacjeeccbhaaD3
import Derived.Test.YtaldacjeeccbhaaE4
import Derived.Lib.BufferRead
import Derived.Laws.IdiomStrings
namespace Go.Proofs.Ytaldacjeeccbhaa
open Go.RowKit
set_option linter.unusedVariables false
set_option linter.unusedSimpArgs false
def toStr (bs : List Int) : ByteArray := ⟨(bs.map fun b => UInt8.ofNat b.toNat).toArray⟩
theorem str_conv (w : World) (v : Value) (bs : List Int) (h : Rd w v bs) (hB : BOk bs) : (convert 33 9 v).run Try.prog w = .ok (.string (toStr bs)) w := by
  rcases h with ⟨rfl, rfl⟩ | ⟨b, off, cap, rfl, h1, h2, h3, h4⟩
  · exact Lib.run_convert_nil_bytes w 33 9 5 0 Try.underlying33 Try.underlying5 Try.underlying9
  · have h := run_convert_bytes_back (P := Try.prog) w 33 9 5 ⟨b, off, none⟩ cap (bs.map fun b => UInt8.ofNat b.toNat) Try.underlying33 Try.underlying5 Try.underlying9 (by
      intro j hj
      rw [List.length_map] at hj
      rw [addr_add, h4 j hj]
      have hb := hB bs[j] (List.getElem_mem _)
      rw [List.getElem_map, List.getD_eq_getElem?_getD, List.getElem?_eq_getElem hj, Option.getD_some, UInt8.toNat_ofNat']
      congr 2
      omega)
    rw [List.length_map] at h
    exact h
def sgnS : ByteArray := ⟨#[80, 84, 70, 1]⟩
theorem toStr_sgn : toStr sgn4 = sgnS := rfl
theorem toStr_inj : ∀ {a b : List Int}, BOk a → BOk b → toStr a = toStr b → a = b := by
  intro a b ha hb h
  have h1 : (a.map fun b => UInt8.ofNat b.toNat) = (b.map fun b => UInt8.ofNat b.toNat) := by
    have := congrArg ByteArray.data h
    simpa [toStr] using this
  clear h
  induction a generalizing b with
  | nil => cases b with
    | nil => rfl
    | cons y q => simp at h1
  | cons x r ih =>
    cases b with
    | nil => simp at h1
    | cons y q =>
      simp only [List.map_cons, List.cons.injEq] at h1
      have e := ih (fun z hz => ha z (List.mem_cons_of_mem _ hz)) (fun z hz => hb z (List.mem_cons_of_mem _ hz)) h1.2
      have p := ha x (by simp)
      have q' := hb y (by simp)
      have h2 := congrArg UInt8.toNat h1.1
      rw [UInt8.toNat_ofNat', UInt8.toNat_ofNat'] at h2
      have : x = y := by omega
      rw [this, e]
theorem nstr_eq (w : World) : (binOp .neq 9 (.string sgnS) (.string { data := #[80, 84, 70, 1] })).run Try.prog w = .ok (.bool false) w := by kernel_rfl
theorem nstr_ne {s : ByteArray} (h : ¬ s = sgnS) (w : World) : (binOp .neq 9 (.string s) (.string { data := #[80, 84, 70, 1] })).run Try.prog w = .ok (.bool true) w := by
  have h2 : ¬ s.toList = [80, 84, 70, 1] := fun e => h (by
    rw [ByteArray.toList_eq] at e
    exact Go.WideShapes.bytes_inj (e : s.data.toList = sgnS.data.toList))
  go_simp
section
variable {T U : Type} {en : T → List Value} {sz : Nat} {P : World → U → T → Prop} {bl : T → Nat → Prop} {Z : Nat → Prop}
/-- One thing more, where something else turned on the way. -/
theorem OW.pushF {S : Nat → Prop} {wr w1 w2 : World} {v v' : Value} {us : List U} {xs : List T} {u : U} {x : T} {m : Nat} (hP : Stays P bl) (h : OW en sz P bl Z wr v us xs) (f1 : Fr S wr w1) (hS : ∀ k, k < wr.heap.size → Z k → ¬ S k) (hx : P w1 u x) (hn : ∀ k, bl x k → wr.heap.size ≤ k ∧ k < w1.heap.size) (hZ : ∀ k, wr.heap.size ≤ k → Z k)
    (hr : Ro w2 sz v' m (flt en xs ++ en x)) (hm : m = us.length + 1) (hg : w1.grownBy w2 v.ownBlock) (hat : v'.ownBlock = v.ownBlock ∨ v'.ownBlock = some w1.heap.size) :
    OW en sz P bl Z w2 v' (us ++ [u]) (xs ++ [x]) ∧ Fr (fun k => S k ∨ v.ownBlock = some k) wr w2 := by
  subst hm
  have hsz := f1.size
  have hln := h.len
  have f2 : Fr (fun k => v.ownBlock = some k) w1 w2 := (Fr.refl _ w1).grown hg (fun k e => .inr e)
  have f3 : Fr (fun k => S k ∨ v.ownBlock = some k) wr w2 := (f1.mono (fun _ _ e => .inl e)).comp f2 (fun _ _ e => .inr e)
  have hvn : ∀ k, v.ownBlock = some k → k < wr.heap.size := h.row.lt
  have hnew : ∀ k, v'.ownBlock = some k → v.ownBlock = some k ∨ w1.heap.size ≤ k := fun k hk => by
    rcases hat with q | q
    · exact .inl (q ▸ hk)
    · rw [q] at hk; cases hk; exact .inr (Nat.le_refl _)
  refine ⟨⟨by simp [h.len], by rw [List.length_append, flt_append, flt_one]; exact hr, fun k hk => ?_, fun i g y hf hy => ?_, fun i y k hy hk => ?_, fun i j y z k hij hy hz hk => ?_⟩, f3⟩
  · rcases hnew k hk with q | q
    · exact h.rb k q
    · exact hZ k (by omega)
  · by_cases q : i < us.length
    · rw [List.getElem?_append_left q] at hf
      rw [List.getElem?_append_left (by omega)] at hy
      refine hP _ wr w2 g y (h.el i g y hf hy) f3 (fun k hk e => ?_)
      have hb := h.eb i y k hy hk
      rcases e with e | e
      · exact hS k hb.2.1 hb.1 e
      · exact hb.2.2 e
    · have hi : i = us.length := by have := (List.getElem?_eq_some_iff.1 hf).1; simp at this; omega
      subst hi
      rw [List.getElem?_append_right (Nat.le_refl _), Nat.sub_self] at hf
      rw [List.getElem?_append_right (by omega), hln, Nat.sub_self] at hy
      cases hf; cases hy
      exact hP _ w1 w2 _ _ hx f2 (fun k hk e => by have := (hn k hk).1; have := hvn k e; omega)
  · by_cases q : i < xs.length
    · rw [List.getElem?_append_left q] at hy
      obtain ⟨z1, z2, z3⟩ := h.eb i y k hy hk
      refine ⟨z1, Nat.lt_of_lt_of_le z2 f3.size, fun e => ?_⟩
      rcases hnew k e with r | r
      · exact z3 r
      · omega
    · have hi : i = xs.length := by have := (List.getElem?_eq_some_iff.1 hy).1; simp at this; omega
      subst hi
      rw [List.getElem?_append_right (Nat.le_refl _), Nat.sub_self] at hy
      cases hy
      obtain ⟨n1, n2⟩ := hn k hk
      refine ⟨hZ k n1, Nat.lt_of_lt_of_le n2 f2.size, fun e => ?_⟩
      rcases hnew k e with r | r
      · have := hvn k r; omega
      · omega
  · have key : ∀ (i : Nat) (y : T), (xs ++ [x])[i]? = some y → (i < xs.length ∧ xs[i]? = some y) ∨ (i = xs.length ∧ y = x) := fun i y hy => by
      by_cases q : i < xs.length
      · rw [List.getElem?_append_left q] at hy; exact .inl ⟨q, hy⟩
      · have hi : i = xs.length := by have := (List.getElem?_eq_some_iff.1 hy).1; simp at this; omega
        subst hi
        rw [List.getElem?_append_right (Nat.le_refl _), Nat.sub_self] at hy
        cases hy
        exact .inr ⟨rfl, rfl⟩
    rcases key i y hy with ⟨q1, q2⟩ | ⟨q1, rfl⟩ <;> rcases key j z hz with ⟨r1, r2⟩ | ⟨r1, rfl⟩
    · exact h.ap i j y z k hij q2 r2 hk
    · intro e
      have := (h.eb i y k q2 hk).2.1
      have := (hn k e).1
      omega
    · intro e
      have := (h.eb j z k r2 e).2.1
      have := (hn k hk).1
      omega
    · omega
end
/-- A list of spots of one's own. -/
def RR (w : World) (l : List Sp) (u : Value) : Prop := Ro w 4 u l.length (flt enS l)
theorem staysR : Stays RR blV := fun S w w' l u h f hk => h.fr f hk
abbrev PO := OW enV 1 RR blV
theorem OW.ppf {Z : Nat → Prop} {w : World} {v : Value} {f : List (List Sp)} {vs : List Value} (h : PO Z w v f vs) : PfV w v f :=
  ⟨vs, h.len, by rw [h.len]; exact Rx.of_ro h.row, fun i l u hl hu => Rx.of_ro (h.el i l u hl hu)⟩
def rdM : Nat → List (List Sp) → List Int → Except Int (List (List Sp) × List Int)
  | 0, f, bs => .ok (f, bs)
  | n + 1, f, bs => match rdF1 bs with | .error e => .error e | .ok (l, t) => rdM n (f ++ [l]) t
def decT (bs : List Int) : Except Int (List (List Sp)) :=
  match unumMost 128 bs with
  | .error k => .error k
  | .ok (n, t) => match rdM n [] t with
    | .error k => .error k
    | .ok (f, t') => if t'.length = 0 then .ok f else .error 3
/-- The profile that bytes are. -/
def decP (bs : List Int) : Except Int (List (List Sp)) :=
  if bs.length < 4 then .error 2 else if bs.take 4 = sgn4 then decT (bs.drop 4) else .error 4
/-- While functions are read. -/
structure MQ (w : World) (r rb B : Nat) (gv : Value) (f : List (List Sp)) (vs : List Value) (bs : List Int) (wr : World) : Prop where
  fr : Fr (fun k => k = r) w wr
  b2 : wr.heap[w.heap.size]? = some (.cells #[.slice none 0 0] 24)
  b5 : wr.heap[B]? = some (.cells #[gv] 24)
  ow : PO (fun k => w.heap.size < k ∧ k ≠ B) wr gv f vs
  rd : ∃ v, Rdr wr r rb v bs 0
  ok : BOk bs
  hr : r < w.heap.size
  hb : rb < w.heap.size
  hB : w.heap.size < B
section
variable {w wr w1 w2 : World} {r rb B : Nat} {gv lv v' : Value} {f : List (List Sp)} {vs : List Value} {l : List Sp} {bs t : List Int}
theorem MQ.sz (h : MQ w r rb B gv f vs bs wr) : w.heap.size < wr.heap.size ∧ B < wr.heap.size := ⟨(blk_cells h.b2).2.2, (blk_cells h.b5).2.2⟩
/-- A function's spots are read, and put behind the others. -/
theorem MQ.push (h : MQ w r rb B gv f vs bs wr) (f1 : RFr r wr w1) {v : Value} (hv : Rdr w1 r rb v t 0) (hk : BOk t) (hl : Ro w1 4 lv l.length (flt enS l)) (hn : ∀ k, lv.ownBlock = some k → wr.heap.size ≤ k) {X : Obj} {m : Nat}
    (hr : Ro w2 1 v' m (flt enV vs ++ enV lv)) (hm : m = f.length + 1) (hg : (w1.alloc X).grownBy w2 gv.ownBlock) (hat : v'.ownBlock = gv.ownBlock ∨ v'.ownBlock = some (w1.alloc X).heap.size) :
    MQ w r rb B v' (f ++ [l]) (vs ++ [lv]) t (w2.setCell ⟨B, 0, none⟩ v') := by
  obtain ⟨s1, s2⟩ := h.sz
  have h1 := h.hr
  have h2 := h.hb
  have h3 := h.hB
  have hs := f1.size
  have fa : Fr (fun k => k = r) wr (w1.alloc X) := Fr.alloc f1 X
  obtain ⟨q1, q2⟩ := h.ow.pushF (S := fun k => k = r) staysR fa (fun k hk hz e => by have e' : k = r := e; omega) (u := l) (x := lv) (hl.keep (fun g hg => Below.heap_alloc _ _ _ (hl.lt g hg))) (fun k hk => ⟨hn k hk, by have := hl.lt k hk; simp; omega⟩) (fun k hk => by constructor <;> omega) hr hm hg hat
  have fz : Fr (fun k => k = B) w2 (w2.setCell ⟨B, 0, none⟩ v') := Fr.setCell (S := fun k => k = B) (Fr.refl _ w2) ⟨B, 0, none⟩ (.inr rfl) v'
  have hgb : ∀ k, gv.ownBlock = some k → w.heap.size < k ∧ k ≠ B := h.ow.rb
  have e2 : w2.heap[w.heap.size]? = wr.heap[w.heap.size]? := q2.block _ s1 (fun e => by rcases e with e | e; omega; have := hgb _ e; omega)
  have e5 : w2.heap[B]? = wr.heap[B]? := q2.block _ s2 (fun e => by rcases e with e | e; omega; have := hgb _ e; omega)
  have hq := q2.size
  have fg : Fr (fun k => gv.ownBlock = some k) (w1.alloc X) w2 := (Fr.refl _ _).grown hg (fun k e => .inr e)
  have hv1 : Rdr w2 r rb v t 0 := (hv.alloc X).keep fg (fun e => by have := hgb _ e; omega) (fun b off len cap e q => by have := hv.ap b off len cap e; have := hgb _ q; omega)
  refine ⟨(h.fr.comp q2 (fun i hi e => ?_)).comp fz (fun i hi e => by omega), (fz.block _ (by omega) (by omega)).trans (e2.trans h.b2), ?_, q1.frZ staysR fz (fun k _ hz e => hz.2 e), ⟨v, hv1.keep fz (by omega) (fun b off len cap e => ?_)⟩, hk, h.hr, h.hb, h.hB⟩
  · rcases e with e | e
    · exact e
    · have := hgb _ e; omega
  · rw [setCell_block (e5.trans h.b5) v']; rfl
  · have := hv.ap b off len cap e
    show ¬ b = B
    omega
end
/-- What reading a profile leaves. -/
def PrP (r : Nat) (w : World) (o : Except Int (List (List Sp))) (e : Ending) (w' : World) : Prop := RFr r w w' ∧
  match o with
  | .error k => k ≠ 0 ∧ ∃ a n c, e = .returned (.tuple #[.agg #[.slice a n c], .int .i64 k])
  | .ok f => ∃ v vs, e = .returned (.tuple #[.agg #[v], .int .i64 0]) ∧ PO (fun k => w.heap.size < k) w' v f vs
theorem rdF1_err {bs : List Int} {k : Int} (e : rdF1 bs = .error k) : True := trivial
end Go.Proofs.Ytaldacjeeccbhaa
