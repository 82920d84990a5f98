/-
  HeapFirst: a channel and a queue beside it.
-/
import Derived.Test.YtkpngfahnpidkaaHChan
namespace Go.Proofs.Ytkpngfahnpidkaa
open Go.RowKit
set_option linter.unusedVariables false

/-- A box of a value. -/
def Bx (w : World) (b : Nat) (k n : Int) : Prop := w.cell? ⟨b, 0, none⟩ = some (.int .i64 k) ∧ w.cell? ⟨b, 1, none⟩ = some (.int .i64 n)
theorem Bx.lt {w : World} {b : Nat} {k n : Int} (h : Bx w b k n) : b < w.heap.size := World.block_lt_of_cell? _ _ h.1
theorem Bx.fr {S : Nat → Prop} {w w' : World} {b : Nat} {k n : Int} (h : Bx w b k n) (f : Fr S w w') (hn : ¬ S b) : Bx w' b k n :=
  ⟨(f.cell (a := ⟨b, 0, none⟩) h.lt hn).trans h.1, (f.cell (a := ⟨b, 1, none⟩) h.lt hn).trans h.2⟩
theorem Bx.new (w : World) (k n : Int) (t : TypeId) : Bx (w.alloc (.cells #[.int .i64 k, .int .i64 n] t)) w.heap.size k n := two_new w _ _ t

/-- The state between two calls: the channel's values Qh, the queue's Qq. -/
structure FJ (w : World) (B hb cb n : Nat) (sh : Bool) (Qh Qq : List (Int × Int)) (qv : Value) (ov : Value) (o : OD) (wr : World) : Prop where
  hp : Hp wr hb 1000 ((2 + n : Nat) : Int) ov [o]
  ok : o.k = 9
  oi : o.its = Qh
  om : o.m = (n : Int)
  os : o.shut = sh
  far : ∀ k, Fts hb ov [o] k → B ≤ k ∧ k ≠ cb ∧ qv.ownBlock ≠ some k
  row : Ro wr 2 qv Qq.length (flat Qq)
  qfar : ∀ k, qv.ownBlock = some k → B ≤ k ∧ k ≠ cb
  cB : B ≤ cb
  cbx : Bx wr cb 9 0
  bel : Below B w wr
  qn : Qq.length ≤ n
section
variable {w : World} {B hb cb n : Nat} {sh : Bool} {Qh Qq : List (Int × Int)} {qv ov : Value} {o : OD} {wr w' : World}
theorem FJ.nm (J : FJ w B hb cb n sh Qh Qq qv ov o wr) : nm [o] 9 0 = some o := by
  unfold Ytkpngfahnpidkaa.nm
  rw [if_pos (by omega)]
  simp [Option.filter, J.ok]
theorem FJ.bsz (J : FJ w B hb cb n sh Qh Qq qv ov o wr) : B ≤ wr.heap.size := by have h1 := J.cB; have h2 := J.cbx.lt; omega
theorem FJ.below (J : FJ w B hb cb n sh Qh Qq qv ov o wr) (f : Below wr.heap.size wr w') : FJ w B hb cb n sh Qh Qq qv ov o w' :=
  have fr : Fr (fun _ => False) wr w' := Fr.of_below f
  ⟨J.hp.below f, J.ok, J.oi, J.om, J.os, J.far, J.row.fr fr (fun _ _ e => e), J.qfar, J.cB, J.cbx.fr fr (fun e => e), J.bel.trans (f.mono J.bsz), J.qn⟩
/-- A call turned the channel. -/
theorem FJ.now (J : FJ w B hb cb n sh Qh Qq qv ov o wr) {o' : OD} {sh' : Bool} {Qh' : List (Int × Int)} (N : Now wr hb 1000 ((2 + n : Nat) : Int) ov [o] w' ((2 + n : Nat) : Int) [o']) (h1 : o'.k = 9) (h2 : o'.its = Qh') (h3 : o'.m = (n : Int)) (h4 : o'.shut = sh') :
    ∃ ov', FJ w B hb cb n sh' Qh' Qq qv ov' o' w' := by
  obtain ⟨ov', H, f, hF⟩ := N
  have hsz := J.bsz
  have cl := J.cbx.lt
  refine ⟨ov', H, h1, h2, h3, h4, fun k hk => ?_, J.row.fr f (fun k hk e => (J.far k e).2.2 hk), J.qfar, J.cB, J.cbx.fr f (fun e => (J.far cb e).2.1 rfl), J.bel.trans (f.below hsz (fun k hk e => by have := (J.far k e).1; omega)), J.qn⟩
  rcases hF k hk with q | q
  · exact J.far k q
  · exact ⟨by omega, by omega, fun e => by have := J.row.lt k e; omega⟩
/-- The queue turned. -/
theorem FJ.queue (J : FJ w B hb cb n sh Qh Qq qv ov o wr) {Qq' : List (Int × Int)} {qv' : Value} (f : Fr (fun k => qv.ownBlock = some k) wr w') (hr : Ro w' 2 qv' Qq'.length (flat Qq')) (hv : qv'.ownBlock = qv.ownBlock ∨ ∀ k, qv'.ownBlock = some k → wr.heap.size ≤ k) (hn : Qq'.length ≤ n) :
    FJ w B hb cb n sh Qh Qq' qv' ov o w' := by
  have hsz := J.bsz
  have cl := J.cbx.lt
  refine ⟨J.hp.keep f (fun k hk => (J.far k hk).2.2), J.ok, J.oi, J.om, J.os, fun k hk => ⟨(J.far k hk).1, (J.far k hk).2.1, fun e => ?_⟩, hr, fun k hk => ?_, J.cB, J.cbx.fr f (fun e => (J.qfar cb e).2 rfl), J.bel.trans (f.below hsz (fun k hk e => by have := (J.qfar k e).1; omega)), hn⟩
  · rcases hv with q | q
    · exact (J.far k hk).2.2 (q ▸ e)
    · have h1 := q k e
      have h2 := J.hp.lt k hk
      omega
  · rcases hv with q | q
    · exact J.qfar k (q ▸ hk)
    · have := q k hk
      exact ⟨by omega, by omega⟩
end
/-- One call of a script. -/
structure OpD where
  on : Int
  call : Int
  vk : Int
  vn : Int
  xk : Int
  xn : Int
  i : Int
  n : Int
  lv : Value
def OpD.zero : OpD := ⟨0, 0, 0, 0, 0, 0, 0, 0, .slice none 0 0⟩
/-- The cells of the call at a place of a script. -/
def opAt (w : World) (b off i : Nat) (p : OpD) : Prop :=
  w.cell? ⟨b, off + i * 9, none⟩ = some (.int .i64 p.on) ∧ w.cell? ⟨b, off + i * 9 + 1, none⟩ = some (.int .i64 p.call) ∧ w.cell? ⟨b, off + i * 9 + 2, none⟩ = some (.int .i64 p.vk) ∧ w.cell? ⟨b, off + i * 9 + 3, none⟩ = some (.int .i64 p.vn) ∧
  w.cell? ⟨b, off + i * 9 + 4, none⟩ = some (.int .i64 p.xk) ∧ w.cell? ⟨b, off + i * 9 + 5, none⟩ = some (.int .i64 p.xn) ∧ w.cell? ⟨b, off + i * 9 + 6, none⟩ = some (.int .i64 p.i) ∧ w.cell? ⟨b, off + i * 9 + 7, none⟩ = some (.int .i64 p.n) ∧ w.cell? ⟨b, off + i * 9 + 8, none⟩ = some p.lv
/-- A script that came in. -/
def RdO (w : World) (v : Value) (ps : List OpD) : Prop :=
  ∃ a cap, v = .slice a ps.length cap ∧ ∀ i, i < ps.length → ∃ b off, a = some ⟨b, off, none⟩ ∧ b < w.heap.size ∧ opAt w b off i (ps.getD i OpD.zero)
theorem opAt.below {w w' : World} {b off i : Nat} {p : OpD} (h : opAt w b off i p) (f : Below w.heap.size w w') (hb : b < w.heap.size) : opAt w' b off i p := by
  have e : ∀ j, w'.cell? ⟨b, j, none⟩ = w.cell? ⟨b, j, none⟩ := fun j => f.cell (p := ⟨b, j, none⟩) hb
  unfold opAt at h ⊢
  simp only [e]
  exact h
end Go.Proofs.Ytkpngfahnpidkaa
