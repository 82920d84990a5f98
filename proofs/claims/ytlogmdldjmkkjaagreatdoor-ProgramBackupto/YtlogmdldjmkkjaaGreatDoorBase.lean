/-
  The words of this seat: frames, rows that read, rows that are one's own.
-/
import Derived.Test.YtlogmdldjmkkjaaGreatDoorRows
import Derived.WalkKit
import Derived.Below
import Derived.Deep.AppendLies
import Derived.Deep.QuietTactic
import Derived.BigQuiet
import Derived.BigRegion
import Derived.Deep.RegionLaw
import Derived.Deep.LoopGhost
import Derived.OwnWalk
import Derived.KernelRfl
import Derived.Deep.WholeRow
import Derived.Deep.MidRow
import Derived.Laws.CopyOwn
import Derived.ChangeKeysEq
import Derived.Laws.StructEq
import Derived.Laws.ResultCell
import Derived.Deep.Upon
import Derived.Maps.AppendAt
import Derived.Lib.BufferRead
import Derived.Laws.IdiomStrings
import Derived.Deep.RegionHeld3
namespace Go.Proofs.YtlogmdldjmkkjaaGreatDoor.dg
open Go.RowKit

theorem hide {p : Prop} (h : p) : Hid p := h
theorem unhide {p : Prop} (h : Hid p) : p := h
theorem Tryz.info5 : (Tryz.prog.info? 5).map (fun i => (i.zero, i.size, i.bytes)) = some (some (.int .u8 0), 1, 1) := by kernel_rfl
/-- A byte as a value. -/
def By (z : Int) : Value := .int .u8 z
/-- From w to w' nothing has turned but the blocks of which S holds, and new ones. -/
structure Fr (S : Nat → Prop) (w w' : World) : Prop where
  os : w'.os = w.os
  tape : w'.tape = w.tape
  output : w'.output = w.output
  size : w.heap.size ≤ w'.heap.size
  block : ∀ k, k < w.heap.size → ¬ S k → w'.heap[k]? = w.heap[k]?

theorem Fr.refl (S : Nat → Prop) (w : World) : Fr S w w := ⟨rfl, rfl, rfl, Nat.le_refl _, fun _ _ _ => rfl⟩
theorem Fr.mono {S T : Nat → Prop} {w w' : World} (h : Fr S w w') (hs : ∀ k, k < w.heap.size → S k → T k) : Fr T w w' :=
  ⟨h.os, h.tape, h.output, h.size, fun k hk hn => h.block k hk (fun hS => hn (hs k hk hS))⟩
theorem Fr.trans {S : Nat → Prop} {a b c : World} (h : Fr S a b) (k : Fr S b c) : Fr S a c :=
  ⟨k.os.trans h.os, k.tape.trans h.tape, k.output.trans h.output, Nat.le_trans h.size k.size,
    fun i hi hn => (k.block i (Nat.lt_of_lt_of_le hi h.size) hn).trans (h.block i hi hn)⟩
theorem Fr.alloc {S : Nat → Prop} {a w : World} (h : Fr S a w) (o : Obj) : Fr S a (w.alloc o) :=
  ⟨h.os, h.tape, h.output, Nat.le_trans h.size (by simp), fun k hk hn => (Below.heap_alloc _ _ _ (Nat.lt_of_lt_of_le hk h.size)).trans (h.block k hk hn)⟩
theorem Fr.drew {S : Nat → Prop} {a w : World} (h : Fr S a w) : Fr S a w.drew := ⟨h.os, h.tape, h.output, h.size, h.block⟩
theorem Fr.setCell {S : Nat → Prop} {a w : World} (h : Fr S a w) (p : Addr) (hp : a.heap.size ≤ p.block ∨ S p.block) (u : Value) : Fr S a (w.setCell p u) :=
  ⟨h.os, h.tape, h.output, Nat.le_trans h.size (by simp [World.setCell]), fun k hk hn => by
    rw [Below.heap_setCell _ _ _ _ ?_]
    · exact h.block k hk hn
    · intro e; subst e
      rcases hp with hp | hp
      · omega
      · exact hn hp⟩
theorem Fr.grown {S : Nat → Prop} {a w w' : World} {row : Option Nat} (h : Fr S a w) (hg : w.grownBy w' row) (hr : ∀ k, row = some k → a.heap.size ≤ k ∨ S k) : Fr S a w' :=
  ⟨hg.os.trans h.os, hg.tape.trans h.tape, hg.output.trans h.output, Nat.le_trans h.size hg.size, fun k hk hn => by
    rw [hg.block k (Nat.lt_of_lt_of_le hk h.size) ?_]
    · exact h.block k hk hn
    · intro e
      rcases hr k e.symm with hp | hp
      · omega
      · exact hn hp⟩
theorem Fr.below {S : Nat → Prop} {B : Nat} {w w' : World} (h : Fr S w w') (hB : B ≤ w.heap.size) (hs : ∀ k, k < B → ¬ S k) : Below B w w' :=
  ⟨h.os, h.tape, h.output, h.size, fun k hk => h.block k (by omega) (hs k hk)⟩
theorem Fr.of_below {S : Nat → Prop} {w w' : World} (h : Below w.heap.size w w') : Fr S w w' :=
  ⟨h.os, h.tape, h.output, h.size, fun k hk _ => h.block k hk⟩
theorem Fr.cell {S : Nat → Prop} {w w' : World} (h : Fr S w w') {a : Addr} (hb : a.block < w.heap.size) (hn : ¬ S a.block) : w'.cell? a = w.cell? a :=
  World.cell?_of_block (h.block a.block hb hn)
theorem Fr.frozen {S : Nat → Prop} {w w' : World} (h : Fr S w w') {a : Addr} (hb : a.block < w.heap.size) (hn : ¬ S a.block) : w'.frozen? a = w.frozen? a :=
  World.frozen?_of_block (h.block a.block hb hn)

def BOk (bs : List Int) : Prop := ∀ b ∈ bs, 0 ≤ b ∧ b < 256

theorem addr_add0 (g i : Nat) : (⟨g, 0, none⟩ : Addr).add i = ⟨g, i, none⟩ := by unfold Addr.add; split <;> simp_all

/-- The slice v reads as the bytes bs. -/
def Rd (w : World) (v : Value) (bs : List Int) : Prop :=
  (v = .slice none 0 0 ∧ bs = []) ∨ ∃ b off cap, v = .slice (some ⟨b, off, none⟩) bs.length cap ∧ bs.length ≤ cap ∧ cap ≤ maxLen ∧ b < w.heap.size ∧ ∀ i, i < bs.length → w.cell? ⟨b, off + i, none⟩ = some (.int .u8 (bs.getD i 0))

theorem Rd.of_own {w : World} {base : Nat} {v : Value} {bs : List Int} (h : w.ownsRow base 5 1 v bs.length (bs.map By)) : Rd w v bs := by
  have hl := h.lt
  have hcs : ∀ g, v.ownBlock = some g → _ := fun g => @World.ownsRow.cells w base 5 1 v bs.length (bs.map By) h g
  rcases h.2 with ⟨rfl, h0⟩ | ⟨g, cap, cur, rfl, hb, hg, hn, hc, hs, ht⟩
  · exact .inl ⟨rfl, List.eq_nil_of_length_eq_zero h0⟩
  · refine .inr ⟨g, 0, cap, rfl, hn, hc, (hl g rfl).2, fun i hi => ?_⟩
    have := hcs g rfl i (By (bs.getD i 0)) (by simp [List.getD, hi])
    rw [addr_add0] at this
    simpa [By] using this

theorem Rd.keep {w w' : World} {S : Nat → Prop} {v : Value} {bs : List Int} (h : Rd w v bs) (f : Fr S w w') (hS : ∀ b off len cap, v = .slice (some ⟨b, off, none⟩) len cap → ¬ S b) : Rd w' v bs := by
  rcases h with h | ⟨b, off, cap, rfl, h1, h2, h3, h4⟩
  · exact .inl h
  · refine .inr ⟨b, off, cap, rfl, h1, h2, Nat.lt_of_lt_of_le h3 f.size, fun i hi => ?_⟩
    rw [f.cell (a := ⟨b, off + i, none⟩) h3 (hS b off _ cap rfl)]
    exact h4 i hi
theorem Rd.below {w w' : World} {v : Value} {bs : List Int} (h : Rd w v bs) (f : Below w.heap.size w w') : Rd w' v bs :=
  h.keep (Fr.of_below (S := fun _ => False) f) (by simp)

theorem addr_add_block (a : Addr) (j : Nat) : (a.add j).block = a.block := by unfold Addr.add; split <;> rfl

theorem own_shape {w : World} {base : Nat} {v : Value} {n : Nat} {xs : List Value} (h : w.ownsRow base 5 1 v n xs) : ∃ a len cap, v = .slice a len cap := by
  rcases h.2 with ⟨rfl, _⟩ | ⟨g, cap, cur, rfl, _⟩
  · exact ⟨_, _, _, rfl⟩
  · exact ⟨_, _, _, rfl⟩

theorem addr_add (b off j : Nat) : (⟨b, off, none⟩ : Addr).add j = ⟨b, off + j, none⟩ := by unfold Addr.add; split <;> simp_all
theorem Rd.shapeR {w : World} {v : Value} {bs : List Int} (h : Rd w v bs) : ∃ a cap, v = .slice a bs.length cap := by
  rcases h with ⟨rfl, rfl⟩ | ⟨b, off, cap, rfl, _⟩
  · exact ⟨none, 0, rfl⟩
  · exact ⟨_, cap, rfl⟩
/-- A byte that a slice reads. -/
theorem Rd.at {w : World} {a : Option Addr} {len cap : Nat} {bs : List Int} (h : Rd w (.slice a len cap) bs) (i : Nat) (hi : i < bs.length) : ∃ b off, a = some ⟨b, off, none⟩ ∧ b < w.heap.size ∧ w.cell? ⟨b, off + i, none⟩ = some (.int .u8 (bs.getD i 0)) := by
  rcases h with ⟨_, rfl⟩ | ⟨b, off, cap', e, _, _, hb, hc⟩
  · simp at hi
  · simp only [Value.slice.injEq] at e
    exact ⟨b, off, e.1, hb, hc i hi⟩
/-- The bytes as a string. -/
def toStr (bs : List Int) : ByteArray := ⟨(bs.map fun b => UInt8.ofNat b.toNat).toArray⟩

theorem toStr_size (bs : List Int) : (toStr bs).size = bs.length := by
  show ((bs.map fun b => UInt8.ofNat b.toNat).toArray).size = _
  simp
/-- A slice of bytes as a string. -/
theorem str_conv (w : World) (v : Value) (bs : List Int) (h : Rd w v bs) (hB : BOk bs) : (convert 27 9 v).run Tryz.prog w = .ok (.string (toStr bs)) w := by
  rcases h with ⟨rfl, rfl⟩ | ⟨b, off, cap, rfl, h1, h2, h3, h4⟩
  · exact Lib.run_convert_nil_bytes w 27 9 5 0 Tryz.underlying27 Tryz.underlying5 Tryz.underlying9
  · have h := run_convert_bytes_back (P := Tryz.prog) w 27 9 5 ⟨b, off, none⟩ cap (bs.map fun b => UInt8.ofNat b.toNat) Tryz.underlying27 Tryz.underlying5 Tryz.underlying9 (by
      intro j hj
      rw [List.length_map] at hj
      rw [addr_add, h4 j hj]
      have hb := hB bs[j] (List.getElem_mem _)
      rw [List.getElem_map, List.getD_eq_getElem?_getD, List.getElem?_eq_getElem hj, Option.getD_some, UInt8.toNat_ofNat']
      congr 2
      omega)
    rw [List.length_map] at h
    exact h
/-- What holds of a row that is made byte by byte. -/
def Grows (w0 : World) (l : Value) (bs : List Int) (w : World) : Prop := w.ownsRow w0.heap.size 5 1 l bs.length (bs.map By) ∧ Below w0.heap.size w0 w
theorem take_getD0 (bs : List Int) (j : Nat) (hj : j < bs.length) : bs.take (j + 1) = bs.take j ++ [bs.getD j 0] := by
  rw [List.take_add_one]; simp [List.getD, hj]

theorem Grows.step {w0 wr w1 : World} {l v : Value} {bs : List Int} {b : Int} {o : Obj} {n : Nat} {xs : List Value} (h : Grows w0 l bs wr) (hown : w1.ownsRow w0.heap.size 5 1 v n xs) (hn : n = bs.length + 1) (hx : xs = bs.map By ++ [.int .u8 b]) (hg : (wr.alloc o).grownBy w1 l.ownBlock) : Grows w0 v (bs ++ [b]) w1 := by
  subst hn hx
  refine ⟨by simpa [By] using hown, ?_⟩
  have F : Fr (fun _ => False) w0 w1 := ((Fr.of_below h.2).alloc o).grown hg (fun k hk => .inl (h.1.lt k hk).1)
  exact F.below (Nat.le_refl _) (by simp)

/-- The marks behind what is lent. -/
def marks (n : Nat) : List Int := (List.range n).map fun (i : Nat) => 201 + (i : Int) % 40
theorem marks_succ (n : Nat) : marks (n + 1) = marks n ++ [201 + (n : Int) % 40] := by simp [marks, List.range_succ]
theorem marks_length (n : Nat) : (marks n).length = n := by simp [marks]
theorem marks_bok (n : Nat) : BOk (marks n) := by
  intro b hb
  simp only [marks, List.mem_map] at hb
  obtain ⟨i, _, rfl⟩ := hb
  omega
theorem marks_getD (n i : Nat) (h : i < n) : (marks n).getD i 0 = 201 + (i : Int) % 40 := by simp [marks, List.getD, h]


/-- Whole numbers lie in block b from offset o on. -/
def Seg (w : World) (b o : Nat) (k : IntKind) (xs : List Int) : Prop := w.rangeAt b o (xs.map (Value.int k)) ∧ w.there b o xs.length
theorem Seg.cell {w : World} {b o : Nat} {k : IntKind} {xs : List Int} (h : Seg w b o k xs) (i : Nat) (hi : i < xs.length) : w.cell? ⟨b, o + i, none⟩ = some (.int k (xs.getD i 0)) :=
  h.1 i _ (by simp [List.getD, hi])
theorem Seg.frz {w : World} {b o : Nat} {k : IntKind} {xs : List Int} (h : Seg w b o k xs) (i : Nat) (hi : i < xs.length) : w.frozen? ⟨b, o + i, none⟩ = false := (h.2 i hi).2
theorem Seg.keepB {w w' : World} {b o : Nat} {k : IntKind} {xs : List Int} (h : Seg w b o k xs) (hb : w'.heap[b]? = w.heap[b]?) : Seg w' b o k xs :=
  ⟨fun j v hv => (World.cell?_of_block (w := w) hb).trans (h.1 j v hv), fun j hj => ⟨by rw [World.cell?_of_block (w := w) hb]; exact (h.2 j hj).1, (World.frozen?_of_block (w := w) hb).trans (h.2 j hj).2⟩⟩
theorem Seg.drew {w : World} {b o : Nat} {k : IntKind} {xs : List Int} (h : Seg w b o k xs) : Seg w.drew b o k xs := h.keepB rfl
theorem Seg.alloc {w : World} {b o : Nat} {k : IntKind} {xs : List Int} (h : Seg w b o k xs) (ob : Obj) : Seg (w.alloc ob) b o k xs := ⟨World.rangeAt_alloc h.1 ob, World.there_alloc h.2 ob⟩
/-- One number is written. -/
theorem Seg.set {w : World} {b o : Nat} {k : IntKind} {xs : List Int} (h : Seg w b o k xs) (i : Nat) (hi : i < xs.length) (y : Int) : Seg (w.setCell ⟨b, o + i, none⟩ (.int k y)) b o k (xs.set i y) := by
  refine ⟨fun j v hv => ?_, fun j hj => ?_⟩
  · rw [List.getElem?_map, List.getElem?_set] at hv
    by_cases e : i = j
    · subst e
      simp [hi] at hv
      subst hv
      exact World.cell?_setCell_same _ _ _ (h.cell i hi)
    · simp [e] at hv
      rw [World.cell?_setCell_other _ _ _ _ (by simp)]
      exact h.1 j v (by simpa using hv)
  · rw [List.length_set] at hj
    refine ⟨?_, by rw [World.frozen?_setCell]; exact (h.2 j hj).2⟩
    by_cases e : i = j
    · subst e; rw [World.cell?_setCell_same _ _ _ (h.cell i hi)]; rfl
    · rw [World.cell?_setCell_other _ _ _ _ (by simp)]; exact (h.2 j hj).1
/-- A number is written elsewhere. -/
theorem Seg.other {w : World} {b o : Nat} {k : IntKind} {xs : List Int} (h : Seg w b o k xs) (a : Addr) (u : Value) (ha : a.block ≠ b ∨ a.off < o ∨ o + xs.length ≤ a.off) : Seg (w.setCell a u) b o k xs := by
  refine ⟨fun j v hv => ?_, fun j hj => ?_⟩
  · have hj : j < xs.length := by have := (List.getElem?_eq_some_iff.1 hv).1; simpa using this
    rw [World.cell?_setCell_other _ _ _ _ (by rintro rfl; simp at ha; omega)]
    exact h.1 j v hv
  · rw [World.cell?_setCell_other _ _ _ _ (by rintro rfl; simp at ha; omega), World.frozen?_setCell]; exact h.2 j hj
/-- Whole numbers as an array's cells. -/
def Ar (k : IntKind) (xs : List Int) : Array Value := (xs.map (Value.int k)).toArray
theorem Ar_size (k : IntKind) (xs : List Int) : (Ar k xs).size = xs.length := by simp [Ar]
theorem Ar_get (k : IntKind) (xs : List Int) (i : Nat) (h : i < xs.length) : (Ar k xs)[i]? = some (.int k (xs.getD i 0)) := by simp [Ar, List.getD, h]
theorem Ar_one (k : IntKind) (xs : List Int) : (Ar k xs).all (·.oneCell') = true := by
  refine all_oneCell_toArray (fun v hv => ?_)
  obtain ⟨_, _, rfl⟩ := List.mem_map.1 hv
  rfl
/-- A new block of whole numbers. -/
theorem Seg.fresh (w : World) (t : TypeId) (k : IntKind) (xs : List Int) : Seg (w.alloc (.cells (Ar k xs) t)) w.heap.size 0 k xs := by
  have hb := heap_alloc_last w (.cells (Ar k xs) t)
  refine ⟨fun j v hv => ?_, fun j hj => ⟨?_, ?_⟩⟩
  · rw [cell_of_row _ _ (0 + j) _ t (0, 0) hb]; simpa [Ar] using hv
  · rw [cell_of_row _ _ (0 + j) _ t (0, 0) hb]; simp [Ar, hj]
  · unfold World.frozen?; rw [hb]; simp
theorem run_loadVar_ar {P : Program} (w : World) (b o : Nat) (ty : TypeId) (k : IntKind) (xs : List Int) (d : TypeDesc) (n : Nat) (hc : Seg w b o k xs) (hn : xs.length = n)
    (hu : P.underlying ty = some d) (hd : d.isRow = true) (hi : (P.info? ty).map (·.size) = some n) : (loadVar ty ⟨b, o, none⟩).run P w = .ok (.agg (Ar k xs)) w :=
  run_loadVar_mid w b o ty (xs.map (Value.int k)) d hc.1 hu hd (by rw [hi, List.length_map, hn])
theorem wpList_load_ar {P : Program} {ops : Array Oper} {rest : List Oper} {op : Oper} {a : Act} {w : World} {Q : Exit → Act → World → Prop} (hgd : op.guard = none) (ty : TypeId) (x : Operand) (ho : op.op = .load ty x)
    (b o : Nat) (hx : a.eval x = .pointer (some ⟨b, o, none⟩)) (k : IntKind) (xs : List Int) (d : TypeDesc) (n : Nat) (hc : Seg w b o k xs) (hn : xs.length = n)
    (hu : P.underlying ty = some d) (hd : d.isRow = true) (hi : (P.info? ty).map (·.size) = some n)
    (h : wpList P ops Q rest (a.put op.dst (.agg (Ar k xs))) w) : wpList P ops Q (op :: rest) a w :=
  wpList_load_mid hgd ty x ho b o hx (xs.map (Value.int k)) d hc.1 hu hd (by rw [hi, List.length_map, hn]) h
theorem wpList_load_arw {P : Program} {ops : Array Oper} {rest : List Oper} {op : Oper} {a : Act} {w : World} {Q : Exit → Act → World → Prop} (hw : Region.wanted op (yielded ops a.tmps) = true) (ty : TypeId) (x : Operand) (ho : op.op = .load ty x)
    (b o : Nat) (hx : a.eval x = .pointer (some ⟨b, o, none⟩)) (k : IntKind) (xs : List Int) (d : TypeDesc) (n : Nat) (hc : Seg w b o k xs) (hn : xs.length = n)
    (hu : P.underlying ty = some d) (hd : d.isRow = true) (hi : (P.info? ty).map (·.size) = some n)
    (h : wpList P ops Q rest (a.put op.dst (.agg (Ar k xs))) w) : wpList P ops Q (op :: rest) a w :=
  wpList_step fun K hK => by
    rw [if_pos hw]
    exact wp_load_mid ty x ho b o hx (xs.map (Value.int k)) d hc.1 hu hd (by rw [hi, List.length_map, hn]) (hK _ _ h)
theorem wpList_store_ar {P : Program} {ops : Array Oper} {rest : List Oper} {op : Oper} {a : Act} {w : World} {Q : Exit → Act → World → Prop} (hgd : op.guard = none) (ty : TypeId) (x y : Operand) (ho : op.op = .store ty x y)
    (b o : Nat) (hx : a.eval x = .pointer (some ⟨b, o, none⟩)) (k : IntKind) (ys : List Int) (n : Nat) (hy : a.eval y = .agg (Ar k ys)) (hn : ys.length = n)
    (ht : w.there b o n) (hi : (P.info? ty).map (·.size) = some n)
    (h : wpList P ops Q rest (a.put op.dst undef) (w.setCells b o (ys.map (Value.int k)))) : wpList P ops Q (op :: rest) a w :=
  wpList_store_mid hgd ty x y ho b o (Ar k ys) hx hy (by rw [Ar_size, hn]; exact ht) (by rw [hi, Ar_size, hn]) (Ar_one k ys) h
theorem wpList_alloc_ar {P : Program} {ops : Array Oper} {rest : List Oper} {op : Oper} {a : Act} {w : World} {Q : Exit → Act → World → Prop} (hgd : op.guard = none) (ty : TypeId) (ho : op.op = .alloc ty)
    (cs : Array Value) (n : Nat) (hi : (P.info? ty).map (fun i => (i.zero, i.size)) = some (some (.agg cs), n))
    (h : wpList P ops Q rest (a.put op.dst (.pointer (some ⟨w.heap.size, 0, none⟩))) (w.alloc (.cells cs ty))) : wpList P ops Q (op :: rest) a w := by
  refine wpList_plain hgd fun K hK => ?_
  have hz := (zero_of_info hi).1
  unfold Oper.wp execOp
  simp only [ho, Instr.alloc, newVar, newRow, newObj, Sem.run_bind, Sem.run_pure, Result.andThen_ok, hz, Value.cells]
  exact hK _ _ h
/-- A row of one's own that holds something: where it lies. -/
theorem own_at {w : World} {base : Nat} {v : Value} {bs : List Int} (h : w.ownsRow base 5 1 v bs.length (bs.map By)) (h0 : 0 < bs.length) :
    ∃ g cap, v = .slice (some ⟨g, 0, none⟩) bs.length cap ∧ base ≤ g ∧ g < w.heap.size ∧ bs.length ≤ cap ∧ cap ≤ maxLen ∧ Seg w g 0 .u8 bs := by
  have hl := h.lt
  have hcs : ∀ g, v.ownBlock = some g → _ := fun g => @World.ownsRow.cells w base 5 1 v bs.length (bs.map By) h g
  rcases h.2 with ⟨rfl, h1⟩ | ⟨g, cap, cur, rfl, hb, hg, hn, hc, hs, ht⟩
  · omega
  · have hcell : ∀ j u, (bs.map By)[j]? = some u → w.cell? ⟨g, j, none⟩ = some u := fun j u hu => by
      have := hcs g rfl j u hu
      rwa [addr_add0] at this
    refine ⟨g, cap, rfl, (hl g rfl).1, (hl g rfl).2, hn, hc, fun j v hv => by rw [Nat.zero_add]; exact hcell j v hv, fun j hj => ⟨?_, ?_⟩⟩
    · rw [Nat.zero_add, hcell j (By (bs.getD j 0)) (by simp [List.getD, hj])]; rfl
    · unfold World.frozen?; rw [hg]; simp
/-- Behind the store of a whole array. -/
theorem Seg.stored {w : World} {b o : Nat} {k : IntKind} (ys : List Int) (ht : w.there b o ys.length) : Seg (w.setCells b o (ys.map (Value.int k))) b o k ys :=
  ⟨World.rangeAt_setCells_same w b o _ (by rw [List.length_map]; exact ht), World.there_setCells ht _ _ _⟩
theorem Seg.apart {w : World} {b o : Nat} {k : IntKind} {xs : List Int} (h : Seg w b o k xs) (b' o' : Nat) (vs : List Value) (ha : b ≠ b' ∨ o + xs.length ≤ o' ∨ o' + vs.length ≤ o) : Seg (w.setCells b' o' vs) b o k xs :=
  ⟨World.rangeAt_setCells_apart h.1 b' o' vs (by rw [List.length_map]; exact ha), World.there_setCells h.2 _ _ _⟩
theorem Fr.setCells {S : Nat → Prop} {a : World} (b : Nat) (hb : a.heap.size ≤ b ∨ S b) : ∀ (vs : List Value) (o : Nat) {w : World}, Fr S a w → Fr S a (w.setCells b o vs)
  | [], _, _, h => h
  | v :: r, o, _, h => Fr.setCells b hb r (o + 1) (h.setCell ⟨b, o, none⟩ hb v)
/-- A number of an array. -/
theorem run_index_ar {P : Program} (w : World) (t e : TypeId) (n : Nat) (hu : P.underlying t = some (.array n e)) (ha : (isAgg e).run P w = .ok false w) (hs : (sizeOf e).run P w = .ok 1 w) (k kk : IntKind) (xs : List Int) (hn : xs.length = n) (i : Nat) (hi : i < xs.length) :
    (Instr.index t (.agg (Ar k xs)) (.int kk (i : Int))).run P w = .ok (.int k (xs.getD i 0)) w := by
  have h1 : (0 : Int) ≤ (i : Int) ∧ (i : Int) < (n : Int) := by omega
  have h2 := Ar_get k xs i hi
  simp [Instr.index, asIntOf, run_underlying hu, part, ha, hs, show i < n by omega, h2]
theorem eqItems_ar {P : Program} (w : World) (d : Nat) (e : TypeId) (k' k : IntKind) (hu : P.underlying e = some (.int k')) (ha : (isAgg e).run P w = .ok false w) (xs ys : List Int) :
    ∀ is : List Nat, (∀ i ∈ is, i < xs.length ∧ i < ys.length) → (Op.eqItems (d + 1) e 1 (Ar k xs) (Ar k ys) is).run P w = .ok (is.all fun i => xs.getD i 0 == ys.getD i 0) w
  | [], _ => by simp [Op.eqItems]
  | i :: is, h => by
    have hi := h i (by simp)
    have ih := eqItems_ar w d e k' k hu ha xs ys is (fun j hj => h j (by simp [hj]))
    have p1 : (part e (Ar k xs) (i * 1)).run P w = .ok (.int k (xs.getD i 0)) w := by simp only [part, Sem.run_bind, ha, Result.andThen_ok, Bool.false_eq_true, if_false, Nat.mul_one, Ar_get k xs i hi.1, Sem.run_pure]
    have p2 : (part e (Ar k ys) (i * 1)).run P w = .ok (.int k (ys.getD i 0)) w := by simp only [part, Sem.run_bind, ha, Result.andThen_ok, Bool.false_eq_true, if_false, Nat.mul_one, Ar_get k ys i hi.2, Sem.run_pure]
    simp only [Op.eqItems, Sem.run_bind, p1, p2, Result.andThen_ok, run_equalIn_int w d e k k' _ _ hu]
    by_cases he : xs.getD i 0 = ys.getD i 0
    · simp only [he, beq_self_eq_true, Bool.not_true, Bool.false_eq_true, if_false, ih, List.all_cons, Bool.true_and]
    · have hb : (xs.getD i 0 == ys.getD i 0) = false := by rw [beq_eq_false_iff_ne]; exact he
      simp only [hb, Bool.not_false, if_true, Sem.run_pure, List.all_cons, Bool.false_and]
theorem all_eq (xs ys : List Int) (n : Nat) (hx : xs.length = n) (hy : ys.length = n) : ((List.range n).all fun i => xs.getD i 0 == ys.getD i 0) = (xs == ys) := by
  rw [Bool.eq_iff_iff]
  simp only [List.all_eq_true, List.mem_range, beq_iff_eq]
  constructor
  · intro h
    apply List.ext_getElem (by omega)
    intro i h1 h2
    have := h i (by omega)
    simpa [List.getD, h1, h2] using this
  · rintro rfl _ _; rfl
/-- Two arrays of whole numbers. -/
theorem run_equal_ar {P : Program} (w : World) (d : Nat) (t e : TypeId) (n : Nat) (k' k : IntKind) (i : TypeInfo) (ht : P.underlying t = some (.array n e)) (hi : P.info? e = some i) (hc : P.cellsOf e = 1) (hu : P.underlying e = some (.int k')) (ha : (isAgg e).run P w = .ok false w)
    (xs ys : List Int) (hx : xs.length = n) (hy : ys.length = n) : (Op.equalIn (d + 2) t (.agg (Ar k xs)) (.agg (Ar k ys))).run P w = .ok (xs == ys) w := by
  rw [run_equalIn_array w (d + 1) (Ar k xs) (Ar k ys) ht hi, hc, eqItems_ar w d e k' k hu ha xs ys _ (fun i h => by rw [List.mem_range] at h; omega), all_eq xs ys n hx hy]
/-- copy into cells that are there. -/
theorem wpList_copy_ar {ops : Array Oper} {rest : List Oper} {op : Oper} {a : Act} {w : World} {Q : Exit → Act → World → Prop} (hgd : op.guard = none) (d s : Operand)
    (ho : op.op = .call { callee := .builtin .copy, args := #[d, s], argTypes := #[27, 27] }) (b o dLen dCap : Nat) (hd : a.eval d = .slice (some ⟨b, o, none⟩) dLen dCap) (sv : Value) (bs : List Int) (hs : a.eval s = sv) (hR : Rd w sv bs)
    (ht : w.there b o (min bs.length dLen)) (h : wpList Tryz.prog ops Q rest (a.put op.dst (goInt (min bs.length dLen : Nat))) (w.setCells b o ((bs.take dLen).map (Value.int .u8)))) : wpList Tryz.prog ops Q (op :: rest) a w := by
  refine wpList_plain hgd fun K hK => ?_
  have hl : ((bs.take dLen).map (Value.int .u8)).length = Nat.min bs.length dLen := by rw [List.length_map, List.length_take]; exact Nat.min_comm _ _
  have hsz : (Tryz.prog.info? 5).map (·.size) = some 1 := by kernel_rfl
  rcases hR with ⟨rfl, rfl⟩ | ⟨sb, so, cap, rfl, h1, h2, h3, h4⟩
  · have hrun := run_copy_none (P := Tryz.prog) w 27 27 op.type 5 (some ⟨b, o, none⟩) none dLen dCap 0 0 Tryz.underlying27 hsz (Nat.min_eq_left (Nat.zero_le _))
    have h' : wpList Tryz.prog ops Q rest (a.put op.dst (goInt 0)) w := by simpa [World.setCells] using h
    unfold Oper.wp
    simp [execOp, ho, resolve, invoke, builtin, hd, hs, hrun, Result.andThen]
    exact hK _ _ h'
  · have hrun := run_copy_cells (P := Tryz.prog) w 27 27 op.type 5 b o dLen dCap ⟨sb, so, none⟩ bs.length cap ((bs.take dLen).map (Value.int .u8)) Tryz.underlying27 hsz hl
      (fun j v hv => by
        rw [addr_add]
        rw [List.getElem?_map, Option.map_eq_some_iff] at hv
        obtain ⟨n, hn, rfl⟩ := hv
        have hj : j < bs.length := by have := (List.getElem?_eq_some_iff.1 hn).1; rw [List.length_take] at this; omega
        have hjd : j < dLen := by have := (List.getElem?_eq_some_iff.1 hn).1; rw [List.length_take] at this; omega
        rw [List.getElem?_take, if_pos hjd] at hn
        rw [h4 j hj, List.getD, hn]; rfl)
      (fun j hj => (ht j (by rw [hl] at hj; exact hj)).1) (fun j hj => (ht j (by rw [hl] at hj; exact hj)).2)
      (fun v hv => by obtain ⟨_, _, rfl⟩ := List.mem_map.1 hv; rfl)
    rw [hl] at hrun
    unfold Oper.wp
    simp only [execOp, ho, resolve, invoke, builtin, hd, hs, hrun, Result.andThen, Sem.run_bind, Sem.run_pure, List.map_toArray, List.map_cons, List.map_nil]
    exact hK _ _ h
/-- A beginning of a row, read. -/
theorem Seg.rd {w : World} {b o : Nat} {xs : List Int} (h : Seg w b o .u8 xs) (n cap : Nat) (hn : n ≤ xs.length) (hc : n ≤ cap) (hm : cap ≤ maxLen) (hb : b < w.heap.size) : Rd w (.slice (some ⟨b, o, none⟩) n cap) (xs.take n) := by
  have hl : (xs.take n).length = n := by rw [List.length_take]; omega
  refine .inr ⟨b, o, cap, by rw [hl], by rw [hl]; exact hc, hm, hb, fun i hi => ?_⟩
  rw [hl] at hi
  rw [h.cell i (by omega), List.getD, List.getD, List.getElem?_take, if_pos hi]
theorem results_cell_one {fn : Func} {p : Tmp} {ty : TypeId} (h : fn.results = #[.cell p ty]) (tmps : Array Value) (P : Program) (w : World) :
    (results fn tmps).run P w = ((asAddr (tmps.getD p undef)).run P w).andThen fun a w₁ => (loadVar ty a).run P w₁ := by
  simp only [results, h]
  simp [Sem.run_bind, Result.andThen]
theorem drewN_heap (w : World) : ∀ n, (w.drewN n).heap = w.heap
  | 0 => rfl
  | n + 1 => drewN_heap w n
theorem below_drewN {B : Nat} {a w : World} (h : Below B a w) : ∀ n, Below B a (w.drewN n)
  | 0 => h
  | n + 1 => (below_drewN h n).drew
theorem set_length_take (xs : List Int) (i n : Nat) (h : n ≤ i) (y : Int) : (xs.set i y).take n = xs.take n := by
  rw [List.take_set, List.set_eq_of_length_le (by simp; omega)]
end Go.Proofs.YtlogmdldjmkkjaaGreatDoor.dg
