/-
  The map of writes; what copies.Run does, told of lists.
-/
import Derived.Test.YtpbdpejhjdoleaaRgK
import Derived.DeepKeys5
import Derived.Maps.Own
namespace Go.Proofs.Ytpbdpejhjdoleaa
open Go.RowKit Go.Maps
noncomputable section
open Classical
set_option linter.unusedVariables false
set_option linter.unusedSimpArgs false
def I64 (k : Int) : Prop := (Lit.int .i64 k).wf = true
def OkO (o : Op) : Prop := I64 o.k ∧ I64 o.n
def kyV (c : Op) : Lit := .string (keyBytes [.int .i64 c.k, .int .i64 c.n])
theorem cellV52 : Try.prog.cellsOf 52 = 2 := by kernel_rfl
theorem cellV3 : Try.prog.cellsOf 3 = 1 := by kernel_rfl
theorem cellV2 : Try.prog.cellsOf 2 = 1 := by kernel_rfl
theorem keyTypeV : Try.prog.keyType 52 = true := by kernel_rfl
theorem litsV3 (n : Nat) (k : Int) (h : (Lit.int .i64 k).wf = true) : Try.prog.keyLits (n + 1) 3 [.int .i64 k] = some [.int .i64 k] := by unfold Program.keyLits; simp [Try.underlying3, h]
theorem litsV2 (n : Nat) (k : Int) (h : (Lit.int .i64 k).wf = true) : Try.prog.keyLits (n + 1) 2 [.int .i64 k] = some [.int .i64 k] := by unfold Program.keyLits; simp [Try.underlying2, h]
theorem typesV : ∃ n, Try.prog.types.size + 1 = n + 1 + 1 := ⟨Try.prog.types.size - 1, by
  have : 0 < Try.prog.types.size := of_decide_eq_true (by kernel_rfl)
  omega⟩
theorem kyV_of {c : Op} (h : OkO c) : keyOf Try.prog 52 (opV c) = some (kyV c) := by
  obtain ⟨h1, h2⟩ := h
  obtain ⟨n, hn⟩ := typesV
  have e : Try.prog.keyLits (n + 1 + 1) 52 [.int .i64 c.k, .int .i64 c.n] = some [.int .i64 c.k, .int .i64 c.n] := by
    unfold Program.keyLits
    split
    all_goals first | (rename_i e2; rw [Try.underlying52] at e2; cases e2; done) | skip
    all_goals first | (simp_all [Try.underlying52]; done) | skip
    rename_i fs heq
    rw [Try.underlying52] at heq
    cases heq
    rw [if_pos ⟨by rw [cellV52]; rfl, by first | kernel_rfl | simp⟩]
    have l3 := litsV3 n _ h1
    have l2 := litsV2 n _ h2
    simp [cellV3, cellV2, l3, l2]
  unfold keyOf opV
  simp only [Try.underlying52]
  rw [keyTypeV]
  have ef : (Value.agg #[.int .i64 c.k, .int .i64 c.n]).formed Try.prog 52 = true := by simp [Value.formed, Try.underlying52, cellV52]
  rw [ef, hn]
  simp only [Bool.and_self, if_true, Value.cells]
  rw [e]
  rfl
theorem laidOutV : Go.laidOutB Try.prog = true := by kernel_rfl
theorem lawV : Keyed Try.prog 52 := Keyed.of_law (deep_law_laid (m := 100) laidOutV (by omega) (of_decide_eq_true (by kernel_rfl)) (by kernel_rfl) (by kernel_rfl))
theorem kyV_inj {c d : Op} (hc : OkO c) (hd : OkO d) (h : kyV c = kyV d) : c = d := by
  have := lawV.inj (kyV_of hc) (by rw [h]; exact kyV_of hd)
  cases c; cases d
  simp [opV] at this
  simp [this]
theorem kyV_key (c : Op) : WideAt.IsKeyLit (kyV c) := trivial
/-- What was written into a register: where in the new list; whether it was moved; from where. -/
structure Wr where
  a : Int
  m : Bool
  o : Op
def wr0 : Wr := ⟨0, false, ⟨0, 0⟩⟩
def wrV (x : Wr) : Value := .agg #[.int .i64 x.a, .bool x.m, .int .i64 x.o.k, .int .i64 x.o.n]
def wrD (x : Wr) : DataW Unit := .agg [.lit (.int .i64 x.a), .lit (.bool x.m), .lit (.int .i64 x.o.k), .lit (.int .i64 x.o.n)]
def wrR (v : Value) : Option (DataW Unit × List MemPlace) :=
  match v with
  | .agg ⟨[.int .i64 a, .bool m, .int .i64 k, .int .i64 n]⟩ => some (wrD ⟨a, m, ⟨k, n⟩⟩, [])
  | _ => none
theorem wrR_of (x : Wr) : wrR (wrV x) = some (wrD x, []) := rfl
theorem wrR_inv {v : Value} {y : DataW Unit × List MemPlace} (h : wrR v = some y) : ∃ x, v = wrV x ∧ y = (wrD x, []) := by
  unfold wrR at h
  split at h
  · cases h; exact ⟨⟨_, _, ⟨_, _⟩⟩, rfl, rfl⟩
  · cases h
theorem wrD_inj {a b : Wr} (h : wrD a = wrD b) : a = b := by
  obtain ⟨a1, a2, a3, a4⟩ := a
  obtain ⟨b1, b2, b3, b4⟩ := b
  simp [wrD] at h
  obtain ⟨rfl, rfl, rfl, rfl⟩ := h
  rfl
theorem zeroEV (w : World) : (zeroValue 78).run Try.prog w = .ok (wrV wr0) w := by kernel_rfl
/-- Block b is a map of at most n entries, from operands to writes. -/
def MfW (w : World) (b n : Nat) (f : Op → Wr) : Prop :=
  ∃ D : DataW Unit, w.ownsMap Try.prog 52 wrR b n D ∧ ∀ s, OkO s → D.atKey (kyV s) (wrD wr0) = wrD (f s)
theorem MfW.lt {w : World} {b n : Nat} {f : Op → Wr} (h : MfW w b n f) : b < w.heap.size := by
  obtain ⟨D, h1, _⟩ := h
  exact h1.lt
theorem MfW.keep {w w' : World} {b n : Nat} {f : Op → Wr} (h : MfW w b n f) (hb : w'.heap[b]? = w.heap[b]?) : MfW w' b n f := by
  obtain ⟨D, ⟨es, clock, h1, h2⟩, h3⟩ := h
  exact ⟨D, ⟨es, clock, hb.trans h1, h2⟩, h3⟩
theorem MfW.fr {S : Nat → Prop} {w w' : World} {b n : Nat} {f : Op → Wr} (h : MfW w b n f) (hf : Fr S w w') (hb : ¬ S b) : MfW w' b n f := h.keep (hf.block b h.lt hb)
theorem MfW.mono {w : World} {b n m : Nat} {f : Op → Wr} (h : MfW w b n f) (e : n ≤ m) : MfW w b m f := by
  obtain ⟨D, h1, h2⟩ := h
  exact ⟨D, h1.mono e, h2⟩
def f0 : Op → Wr := fun _ => wr0
theorem MfW.made (w : World) : MfW (w.alloc (.map #[] 0)) w.heap.size 0 f0 :=
  ⟨.map [], World.ownsMap_made _ _ _ _, fun s _ => rfl⟩
theorem MfW.look {w : World} {b n : Nat} {f : Op → Wr} (h : MfW w b n f) (s : Op) (hs : OkO s) :
    (Instr.lookup 60 (.map (some b)) (opV s) false).run Try.prog w = .ok (wrV (f s)) w := by
  obtain ⟨D, h1, h2⟩ := h
  obtain ⟨v, ps, hrun, hv⟩ := h1.lookup lawV Try.underlying60 (zeroEV w) (wrR_of wr0) (kyV_of hs)
  obtain ⟨o, rfl, hc⟩ := wrR_inv hv
  simp only [Prod.mk.injEq] at hc
  have := h2 s hs
  rw [hc.1] at this
  rw [hrun, wrD_inj this]
def updW (f : Op → Wr) (s : Op) (x : Wr) : Op → Wr := fun t => if t = s then x else f t
theorem MfW.put {w : World} {b n : Nat} {f : Op → Wr} (h : MfW w b n f) (s : Op) (hs : OkO s) (x : Wr) (hn : n < maxLen) :
    ∃ w', (Instr.mapUpdate 60 (.map (some b)) (opV s) (wrV x)).run Try.prog w = .ok () w' ∧ MfW w' b (n + 1) (updW f s x) ∧ w.grownBy w' (some b) := by
  obtain ⟨D, h1, h2⟩ := h
  obtain ⟨w', hrun, r1, r2⟩ := h1.update lawV Try.underlying60 hn (kyV_of hs) (wrR_of x)
  refine ⟨w', hrun, ⟨_, r1, fun t ht => ?_⟩, r2⟩
  unfold updW
  by_cases e : t = s
  · subst e
    rw [if_pos rfl, atKey_put_same h1.isMap (kyV_key t)]
  · rw [if_neg e, atKey_put_other (fun q => e (kyV_inj ht hs q))]
    exact h2 t ht
theorem MfW.clear {w : World} {b n : Nat} {f : Op → Wr} (h : MfW w b n f) (ty : TypeId) :
    ∃ v w', (Builtin.clear_ #[60] ty #[.map (some b)]).run Try.prog w = .ok v w' ∧ MfW w' b 0 f0 ∧ w.grownBy w' (some b) := by
  obtain ⟨D, ⟨es, clock, hb, F, _, _⟩, _⟩ := h
  cases hr : (Builtin.clear_ #[60] ty #[.map (some b)]).run Try.prog w with
  | ok v w' =>
    refine ⟨v, w', rfl, ?_⟩
    simp [Builtin.clear_, run_underlying Try.underlying60, MapKept.run_getObj_map hb, MapKept.run_setObj_map _ hb, Result.andThen] at hr
    obtain ⟨_, rfl⟩ := hr
    exact ⟨⟨.map [], ⟨_, _, (MapKept.heap_set hb).1, ⟨by simp, MapKept.stamped_empty _, by simp⟩, by simp, rfl⟩, fun s _ => rfl⟩, ⟨rfl, rfl, rfl, by simp, fun i _ hi => (MapKept.heap_set hb).2 i (fun e => hi (by rw [e]))⟩⟩
  | _ => simp [Builtin.clear_, run_underlying Try.underlying60, MapKept.run_getObj_map hb, MapKept.run_setObj_map _ hb, Result.andThen] at hr
/-- What an operand is known as. -/
def srcF (f : Op → Wr) (o : Op) : Op := if (f o).m = false then o else if (f o).a < (f (f o).o).a then o else (f o).o
def shF (f : Op → Wr) (s : Sh) : Sh := ⟨s.fn, s.pc, s.sl.map (srcF f)⟩
def inF (f : Op → Wr) (x : RIn) : RIn := ⟨x.op, x.code, x.dst, x.args.map (srcF f), x.n, x.pc, x.need, x.ex.map (shF f)⟩
/-- What an instruction moves. -/
def mvd (x : RIn) : Option Op := if x.op = 1 ∧ x.args.length = 1 ∧ x.dst ≠ -1 then x.args[0]? else none
def rgO (k : Int) : Op := ⟨0, k⟩
def mvO (o : Option Op) : Op := match o with | some o => o | none => ⟨0, 0⟩
/-- One instruction. -/
def stp (s : (Op → Wr) × List RIn) (x : RIn) : (Op → Wr) × List RIn :=
  let y := inF s.1 x
  if mvd y = some (rgO x.dst) then s
  else (if x.dst = -1 then s.1 else updW s.1 (rgO x.dst) ⟨(s.2.length : Int), (mvd y).isSome, mvO (mvd y)⟩, s.2 ++ [y])
def trn (l : List RIn) : (Op → Wr) × List RIn := l.foldl stp (f0, [])
def bkT (b : Bk) : Bk := ⟨b.pc, (trn b.ins).2, b.nx⟩
/-- Right numbers. -/
def OkI (x : RIn) : Prop := I64 x.dst ∧ (∀ o ∈ x.args, OkO o) ∧ ∀ s ∈ x.ex, ∀ o ∈ s.sl, OkO o
def OkF (f : Op → Wr) : Prop := ∀ s, OkO (f s).o
theorem ok0 : OkO ⟨0, 0⟩ := ⟨by show (Lit.int .i64 0).wf = true; decide, by show (Lit.int .i64 0).wf = true; decide⟩
theorem OkF.zero : OkF f0 := fun _ => ok0
theorem OkF.src {f : Op → Wr} (h : OkF f) {o : Op} (ho : OkO o) : OkO (srcF f o) := by
  unfold srcF
  split
  · exact ho
  · split
    · exact ho
    · exact h o
theorem OkF.ins {f : Op → Wr} (h : OkF f) {x : RIn} (hx : OkI x) : OkI (inF f x) := by
  refine ⟨hx.1, fun o ho => ?_, fun s hs o ho => ?_⟩
  · obtain ⟨p, hp, rfl⟩ := List.mem_map.1 ho
    exact h.src (hx.2.1 p hp)
  · obtain ⟨q, hq, rfl⟩ := List.mem_map.1 hs
    obtain ⟨p, hp, rfl⟩ := List.mem_map.1 ho
    exact h.src (hx.2.2 q hq p hp)
theorem mvO_ok {x : RIn} (hx : OkI x) : OkO (mvO (mvd x)) := by
  unfold mvd
  split
  · cases e : x.args[0]? with
    | none => exact ok0
    | some o => exact hx.2.1 o (List.mem_of_getElem? e)
  · exact ok0
theorem OkF.upd {f : Op → Wr} (h : OkF f) {s : Op} {x : Wr} (hx : OkO x.o) : OkF (updW f s x) := fun t => by
  unfold updW
  split
  · exact hx
  · exact h t
theorem OkF.stp {s : (Op → Wr) × List RIn} (h : OkF s.1) {x : RIn} (hx : OkI x) : OkF (stp s x).1 := by
  unfold Ytpbdpejhjdoleaa.stp
  dsimp only
  split
  · exact h
  · dsimp only
    split
    · exact h
    · exact h.upd (mvO_ok (h.ins hx))
theorem stp_ok {s : (Op → Wr) × List RIn} (h : OkF s.1) (hs : ∀ y ∈ s.2, OkI y) {x : RIn} (hx : OkI x) : ∀ y ∈ (stp s x).2, OkI y := by
  unfold stp
  dsimp only
  split
  · exact hs
  · intro y hy
    rcases List.mem_append.1 hy with q | q
    · exact hs y q
    · rw [List.mem_singleton] at q; subst q; exact h.ins hx
theorem stp_len (s : (Op → Wr) × List RIn) (x : RIn) : (stp s x).2.length ≤ s.2.length + 1 := by
  unfold stp
  dsimp only
  split
  · omega
  · simp
theorem trn_push (l : List RIn) (x : RIn) : trn (l ++ [x]) = stp (trn l) x := by simp [trn, List.foldl_append]
end
end Go.Proofs.Ytpbdpejhjdoleaa
