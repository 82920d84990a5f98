/-
  Rows of things of several cells each; programs in memory.
-/
import Derived.Test.YtnefmfnchimppaaRBase
import Derived.BigQuiet
import Derived.OwnWalk
import Derived.WalkSpells
import Derived.WalkLawsBesides
import Derived.StillTactics
import Derived.Laws.Pointers
import Derived.Laws.NewBlocks
import Derived.Handy
import Derived.Deep.QuietTactic
import Derived.Deep.LoopGhost
import Derived.Deep.AppendLies
namespace Go.Proofs.Ytnefmfnchimppaa
open Go.RowKit
set_option linter.unusedVariables false

section
variable {T : Type}
/-- Things as their cells. -/
def flt (en : T → List Value) (l : List T) : List Value := l.flatMap en
theorem flt_length {en : T → List Value} {sz : Nat} (hz : ∀ x, (en x).length = sz) (l : List T) : (flt en l).length = l.length * sz := by
  induction l with
  | nil => simp [flt]
  | cons p r ih => simp only [flt, List.flatMap_cons, List.length_append, List.length_cons, hz] at ih ⊢; rw [ih, Nat.add_mul]; omega
theorem flt_append (en : T → List Value) (l m : List T) : flt en (l ++ m) = flt en l ++ flt en m := List.flatMap_append
theorem flt_one (en : T → List Value) (p : T) : flt en [p] = en p := by simp [flt]
theorem flt_take {en : T → List Value} {sz : Nat} (hz : ∀ x, (en x).length = sz) (l : List T) (k : Nat) : (flt en l).take (k * sz) = flt en (l.take k) := by
  induction l generalizing k with
  | nil => simp [flt]
  | cons p r ih =>
    cases k with
    | zero => simp [flt]
    | succ k =>
      have := ih k
      rw [List.take_succ_cons]
      simp only [flt, List.flatMap_cons] at this ⊢
      rw [Nat.add_mul, Nat.one_mul, Nat.add_comm, ← hz p, List.take_length_add_append, hz p, this]
theorem flt_drop {en : T → List Value} {sz : Nat} (hz : ∀ x, (en x).length = sz) (l : List T) (k : Nat) : (flt en l).drop (k * sz) = flt en (l.drop k) := by
  induction l generalizing k with
  | nil => simp [flt]
  | cons p r ih =>
    cases k with
    | zero => simp [flt]
    | succ k =>
      have := ih k
      rw [List.drop_succ_cons]
      simp only [flt, List.flatMap_cons] at this ⊢
      rw [Nat.add_mul, Nat.one_mul, Nat.add_comm, ← hz p, List.drop_length_add_append, hz p, this]
theorem flt_at {en : T → List Value} {sz : Nat} (hz : ∀ x, (en x).length = sz) {l : List T} {k : Nat} {p : T} (h : l[k]? = some p) (j : Nat) (hj : j < sz) : (flt en l)[k * sz + j]? = (en p)[j]? := by
  obtain ⟨hk, hp⟩ := List.getElem?_eq_some_iff.1 h
  have h1 := flt_drop hz l k
  have h2 : l.drop k = p :: l.drop (k + 1) := by rw [← hp]; exact List.drop_eq_getElem_cons hk
  rw [h2] at h1
  have e := congrArg (fun q => q[j]?) h1
  simp only [List.getElem?_drop, flt, List.flatMap_cons] at e
  rw [flt, e, List.getElem?_append_left (by rw [hz]; exact hj)]
theorem take_push {l : List T} {i : Nat} {p : T} (h : l[i]? = some p) : l.take (i + 1) = l.take i ++ [p] := by
  rw [List.take_add_one, h]; rfl
theorem flt_set {en : T → List Value} {sz : Nat} (hz : ∀ x, (en x).length = sz) (l : List T) (k : Nat) (p : T) (hk : k < l.length) (i : Nat) : (flt en (l.set k p))[i]? = if k * sz ≤ i ∧ i < k * sz + sz then (en p)[i - k * sz]? else (flt en l)[i]? := by
  have e1 : l.set k p = l.take k ++ [p] ++ l.drop (k + 1) := by
    rw [List.set_eq_take_append_cons_drop, if_pos hk]; simp
  have e2 : l = l.take k ++ [l[k]] ++ l.drop (k + 1) := by
    conv => lhs; rw [← List.take_append_drop k l, List.drop_eq_getElem_cons hk]
    simp
  have hl : (flt en (l.take k)).length = k * sz := by rw [flt_length hz, List.length_take, Nat.min_eq_left (by omega)]
  rw [e1]
  conv => rhs; rw [e2]
  simp only [flt_append, flt_one]
  by_cases q : k * sz ≤ i ∧ i < k * sz + sz
  · rw [if_pos q, List.getElem?_append_left (by rw [List.length_append, hl, hz]; omega), List.getElem?_append_right (by omega), hl]
  · rw [if_neg q]
    by_cases q1 : i < k * sz
    · rw [List.getElem?_append_left (by rw [List.length_append, hl, hz]; omega), List.getElem?_append_left (by omega), List.getElem?_append_left (by rw [List.length_append, hl, hz]; omega), List.getElem?_append_left (by omega)]
    · rw [List.getElem?_append_right (by rw [List.length_append, hl, hz]; omega), List.getElem?_append_right (by rw [List.length_append, hl, hz]; omega)]
      simp only [List.length_append, hz]

/-- A row that can be read. -/
def Rx (w : World) (sz : Nat) (v : Value) (n : Nat) (xs : List Value) : Prop :=
  xs.length = n * sz ∧ ∃ a cap, v = .slice a n cap ∧ n ≤ cap ∧ cap ≤ maxLen ∧ (0 < n → ∃ b off, a = some ⟨b, off, none⟩ ∧ b < w.heap.size ∧ ∀ j, j < n * sz → w.cell? ⟨b, off + j, none⟩ = xs[j]?)
theorem Rx.of_ro {w : World} {sz : Nat} {v : Value} {n : Nat} {xs : List Value} (h : Ro w sz v n xs) : Rx w sz v n xs := by
  refine ⟨h.1, ?_⟩
  obtain ⟨a, cap, e, h1, h2⟩ := h.shape
  refine ⟨a, cap, e, h1, h2, fun hn => ?_⟩
  obtain ⟨g, off, cap', e', _, _, hl, hc⟩ := h.full hn
  rw [e] at e'
  cases e'
  exact ⟨g, off, rfl, hl, hc⟩
theorem Rx.below {w w' : World} {sz : Nat} {v : Value} {n : Nat} {xs : List Value} {B : Nat} (h : Rx w sz v n xs) (f : Below B w w') (hB : w.heap.size ≤ B) : Rx w' sz v n xs := by
  obtain ⟨h1, a, cap, e, h2, h3, h4⟩ := h
  refine ⟨h1, a, cap, e, h2, h3, fun hn => ?_⟩
  obtain ⟨b, off, e2, hb, hc⟩ := h4 hn
  have hs := f.size
  exact ⟨b, off, e2, by omega, fun j hj => (f.cell (p := ⟨b, off + j, none⟩) (Nat.lt_of_lt_of_le hb hB)).trans (hc j hj)⟩
theorem Rx.fr {S : Nat → Prop} {w w' : World} {sz : Nat} {v : Value} {n : Nat} {xs : List Value} (h : Rx w sz v n xs) (f : Fr S w w') (hn : ∀ k, v.ownBlock = some k → ¬ S k) : Rx w' sz v n xs := by
  obtain ⟨h1, a, cap, e, h2, h3, h4⟩ := h
  refine ⟨h1, a, cap, e, h2, h3, fun h0 => ?_⟩
  obtain ⟨b, off, e2, hb, hc⟩ := h4 h0
  have hs := f.size
  have hnb := hn b (by rw [e, e2]; rfl)
  exact ⟨b, off, e2, by omega, fun j hj => (f.cell (a := ⟨b, off + j, none⟩) hb hnb).trans (hc j hj)⟩
theorem Rx.nil (w : World) (sz : Nat) : Rx w sz (.slice none 0 0) 0 [] := Rx.of_ro (Ro.nil w sz)
theorem Rx.elem {w : World} {sz : Nat} {en : T → List Value} (hz : ∀ x, (en x).length = sz) {v : Value} {l : List T} (h : Rx w sz v l.length (flt en l)) {i : Nat} {p : T} (hp : l[i]? = some p) :
    ∃ b off cap, v = .slice (some ⟨b, off, none⟩) l.length cap ∧ l.length ≤ cap ∧ cap ≤ maxLen ∧ b < w.heap.size ∧ ∀ j u, (en p)[j]? = some u → w.cell? ⟨b, off + i * sz + j, none⟩ = some u := by
  have hi := (List.getElem?_eq_some_iff.1 hp).1
  obtain ⟨h1, a, cap, e, h2, h3, h4⟩ := h
  obtain ⟨b, off, rfl, hb, hc⟩ := h4 (by omega)
  refine ⟨b, off, cap, e, h2, h3, hb, fun j u hu => ?_⟩
  have hj : j < sz := by have := (List.getElem?_eq_some_iff.1 hu).1; rw [hz] at this; exact this
  have hm : i * sz + j < l.length * sz := Nat.lt_of_lt_of_le (by rw [Nat.add_mul, Nat.one_mul]; omega : i * sz + j < (i + 1) * sz) (Nat.mul_le_mul_right _ hi)
  rw [Nat.add_assoc, hc _ hm, flt_at hz hp j hj, hu]
/-- A row of one's own that grows. -/
def Gx (w : World) (sz : Nat) (en : T → List Value) (l : List T) (v : Value) (wr : World) : Prop := Ro wr sz v l.length (flt en l) ∧ Below w.heap.size w wr ∧ ∀ k, v.ownBlock = some k → w.heap.size ≤ k
theorem Gx.push {w wr w' : World} {sz : Nat} {en : T → List Value} {l : List T} {v v' : Value} {p : T} {X : Obj} {m : Nat} (h : Gx w sz en l v wr) (hr : Ro w' sz v' m (flt en l ++ en p)) (hm : m = l.length + 1) (hg : (wr.alloc X).grownBy w' v.ownBlock) (hat : v'.ownBlock = v.ownBlock ∨ v'.ownBlock = some (wr.alloc X).heap.size) : Gx w sz en (l ++ [p]) v' w' := by
  subst hm
  obtain ⟨h1, h2, h3⟩ := h
  have hs := h2.size
  have f : Fr (fun k => v.ownBlock = some k) wr w' := ((Fr.refl _ wr).alloc X).grown hg (fun k e => .inr e)
  refine ⟨by rw [List.length_append, flt_append, flt_one]; exact hr, h2.trans (f.below hs (fun k hk e => by have := h3 k e; omega)), fun k hk => ?_⟩
  rcases hat with q | q
  · exact h3 k (q ▸ hk)
  · rw [q] at hk; cases hk; simp; omega
end
theorem new_cells (w : World) (arr : Array Value) (e : TypeId) : ∀ j z, arr.toList[j]? = some z → (w.alloc (.cells arr e)).cell? ((⟨w.heap.size, 0, none⟩ : Addr).add j) = some z := fun j z hz => by
  rw [Go.WideShapes.add_plain]
  simp only [World.cell?, heap_alloc_new, Nat.zero_add]
  simpa using hz
theorem info_parts {P : Program} {t : TypeId} {a : Option Value} {b c : Nat} (h : (P.info? t).map (fun i => (i.zero, i.size, i.bytes)) = some (a, b, c)) : ∃ i, P.info? t = some i ∧ i.zero = a ∧ i.size = b ∧ i.bytes = c := by
  cases e : P.info? t with
  | none => rw [e] at h; cases h
  | some i =>
    rw [e] at h
    simp only [Option.map_some, Option.some.injEq, Prod.mk.injEq] at h
    exact ⟨i, rfl, h.1, h.2.1, h.2.2⟩
theorem wpList_app {P : Program} {w : World} {ops : Array Oper} {rest : List Oper} {o : Oper} {a : Act} {Q : Exit → Act → World → Prop}
    (hg : o.guard = none) (s x : Operand) (t : TypeId) (hop : o.op = Op.call { callee := Callee.builtin Builtin.append, args := #[s, x], argTypes := #[t, t] })
    (e : TypeId) (i : TypeInfo) (z : Value) (size bytes : Nat) (h1 : P.underlying t = some (.slice e)) (h2 : P.info? e = some i) (h3 : i.zero = some z) (h4 : i.size = size) (h5 : i.bytes = bytes) (h6 : z.cells.size = size) (h7 : 0 < size)
    (v : Value) (n : Nat) (xs : List Value) (hs : a.eval s = v) (hr : Ro w size v n xs) (ad : Addr) (m c : Nat) (news : List Value) (hx : a.eval x = .slice (some ad) m c) (hn : news.length = m * size) (hc : ∀ j u, news[j]? = some u → w.cell? (ad.add j) = some u) (h1c : ∀ u ∈ news, u.oneCell' = true)
    (h0 : 0 < m) (b1 : n + m ≤ maxLen) (b2 : (n + m) * bytes ≤ 140737488355328)
    (hK : ∀ v' w', Ro w' size v' (n + m) (xs ++ news) → w.grownBy w' v.ownBlock → (v'.ownBlock = v.ownBlock ∨ v'.ownBlock = some w.heap.size) → wpList P ops Q rest (a.put o.dst v') w') :
    wpList P ops Q (o :: rest) a w := by
  refine wpList_plain hg fun K hK' => ?_
  obtain ⟨v', w', hrun, r1, r2, r3⟩ := Ro.app (P := P) t o.type e i z size bytes h1 h2 h3 h4 h5 h6 h7 hr ad m c news hn hc h1c h0 b1 b2
  unfold Oper.wp
  simp [execOp, hop, resolve, invoke, builtin, hs, hx, hrun, Result.andThen]
  exact hK' _ _ (hK v' w' r1 r2 r3)

/-- A constant; a handler; a function; a program. -/
structure Cn where
  kind : Int
  n : Int
  text : ByteArray
structure Hd where
  frm : Int
  to : Int
  target : Int
  height : Int
structure Fc where
  name : ByteArray
  params : Int
  locals : Int
  code : List (Int × Int)
  hs : List Hd
structure Pg where
  consts : List Cn
  funcs : List Fc
def enI (p : Int × Int) : List Value := [.int .i64 p.1, .int .i64 p.2]
def enC (c : Cn) : List Value := [.int .i64 c.kind, .int .i64 c.n, .string c.text]
def enH (h : Hd) : List Value := [.int .i64 h.frm, .int .i64 h.to, .int .i64 h.target, .int .i64 h.height]
/-- A function's own cells: with the two lists where they lie. -/
structure Fv where
  name : ByteArray
  params : Int
  locals : Int
  cv : Value
  hv : Value
def enF (f : Fv) : List Value := [.string f.name, .int .i64 f.params, .int .i64 f.locals, f.cv, f.hv]
theorem zI : ∀ p, (enI p).length = 2 := fun _ => rfl
theorem zC : ∀ p, (enC p).length = 3 := fun _ => rfl
theorem zH : ∀ p, (enH p).length = 4 := fun _ => rfl
theorem zF : ∀ p, (enF p).length = 5 := fun _ => rfl
/-- These cells are this function. -/
def FnV (w : World) (f : Fc) (x : Fv) : Prop :=
  x.name = f.name ∧ x.params = f.params ∧ x.locals = f.locals ∧ Rx w 2 x.cv f.code.length (flt enI f.code) ∧ Rx w 4 x.hv f.hs.length (flt enH f.hs)
/-- A row of functions that can be read. -/
def Rfs (w : World) (v : Value) (fs : List Fc) : Prop :=
  ∃ xs : List Fv, xs.length = fs.length ∧ Rx w 5 v xs.length (flt enF xs) ∧ ∀ (i : Nat) (f : Fc) (x : Fv), fs[i]? = some f → xs[i]? = some x → FnV w f x
/-- A program that can be read. -/
def PgV (w : World) (v : Value) (p : Pg) : Prop := ∃ cv fv, v = .agg #[cv, fv] ∧ Rx w 3 cv p.consts.length (flt enC p.consts) ∧ Rfs w fv p.funcs
theorem FnV.below {w w' : World} {f : Fc} {x : Fv} {B : Nat} (h : FnV w f x) (k : Below B w w') (hB : w.heap.size ≤ B) : FnV w' f x :=
  ⟨h.1, h.2.1, h.2.2.1, h.2.2.2.1.below k hB, h.2.2.2.2.below k hB⟩
theorem Rfs.below {w w' : World} {v : Value} {fs : List Fc} {B : Nat} (h : Rfs w v fs) (k : Below B w w') (hB : w.heap.size ≤ B) : Rfs w' v fs := by
  obtain ⟨xs, h1, h2, h3⟩ := h
  exact ⟨xs, h1, h2.below k hB, fun i f x hf hx => (h3 i f x hf hx).below k hB⟩
theorem PgV.below {w w' : World} {v : Value} {p : Pg} {B : Nat} (h : PgV w v p) (k : Below B w w') (hB : w.heap.size ≤ B) : PgV w' v p := by
  obtain ⟨cv, fv, e, h1, h2⟩ := h
  exact ⟨cv, fv, e, h1.below k hB, h2.below k hB⟩
end Go.Proofs.Ytnefmfnchimppaa
