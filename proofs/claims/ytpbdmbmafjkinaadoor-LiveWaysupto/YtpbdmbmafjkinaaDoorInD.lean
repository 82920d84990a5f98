/-
  Instructions and blocks in memory of one's own: what that is.
-/
import Derived.Test.YtpbdmbmafjkinaaDoorRgT
namespace Go.Proofs.YtpbdmbmafjkinaaDoor
open Go.RowKit
set_option linter.unusedVariables false
set_option linter.unusedSimpArgs false
abbrev TI := InR × List ShR
def enT (t : TI) : List Value := enIn t.1
theorem zT : ∀ p, (enT p).length = 8 := fun _ => rfl
def blT (t : TI) (k : Nat) : Prop := t.1.av.ownBlock = some k ∨ t.1.ev.ownBlock = some k ∨ ∃ r ∈ t.2, r.v.ownBlock = some k
/-- An instruction, its operands, its shapes and their slots in blocks of their own. -/
structure InT (w : World) (u : RIn) (t : TI) : Prop where
  f : t.1.op = u.op ∧ t.1.code = u.code ∧ t.1.dst = u.dst ∧ t.1.n = u.n ∧ t.1.pc = u.pc ∧ t.1.need = u.need
  a : Ro w 2 t.1.av u.args.length (flt enO u.args)
  len : t.2.length = u.ex.length
  e : Ro w 3 t.1.ev u.ex.length (flt enSh t.2)
  s : ∀ (j : Nat) (s : Sh) (r : ShR), u.ex[j]? = some s → t.2[j]? = some r → r.fn = s.fn ∧ r.pc = s.pc ∧ Ro w 2 r.v s.sl.length (flt enO s.sl)
  ae : ∀ k, t.1.av.ownBlock = some k → t.1.ev.ownBlock ≠ some k
  asp : ∀ (r : ShR) (k : Nat), r ∈ t.2 → r.v.ownBlock = some k → t.1.av.ownBlock ≠ some k ∧ t.1.ev.ownBlock ≠ some k
  ss : ∀ (i j : Nat) (r q : ShR) (k : Nat), i ≠ j → t.2[i]? = some r → t.2[j]? = some q → r.v.ownBlock = some k → q.v.ownBlock ≠ some k
theorem stayT : Stays InT blT := fun S w w' u t h f hS =>
  ⟨h.f, h.a.fr f (fun k hk => hS k (.inl hk)), h.len, h.e.fr f (fun k hk => hS k (.inr (.inl hk))), fun j s r hs hr => ⟨(h.s j s r hs hr).1, (h.s j s r hs hr).2.1, (h.s j s r hs hr).2.2.fr f (fun k hk => hS k (.inr (.inr ⟨r, List.mem_of_getElem? hr, hk⟩)))⟩, h.ae, h.asp, h.ss⟩
theorem InT.inP {w : World} {u : RIn} {t : TI} (h : InT w u t) : InP (blT t) w u t.1 :=
  ⟨h.f.1, h.f.2.1, h.f.2.2.1, h.f.2.2.2.1, h.f.2.2.2.2.1, h.f.2.2.2.2.2, Rd.of_ro h.a (fun k hk => .inl hk), t.2, h.len, Rd.of_ro h.e (fun k hk => .inr (.inl hk)), fun i s r hs hr => ⟨(h.s i s r hs hr).1, (h.s i s r hs hr).2.1, Rd.of_ro (h.s i s r hs hr).2.2 (fun k hk => .inr (.inr ⟨r, List.mem_of_getElem? hr, hk⟩))⟩⟩
abbrev TB := BkR × List TI
def enTB (t : TB) : List Value := enBk t.1
theorem zTB : ∀ p, (enTB p).length = 3 := fun _ => rfl
def blB (t : TB) (k : Nat) : Prop := t.1.iv.ownBlock = some k ∨ (∃ y ∈ t.2, blT y k) ∨ t.1.nv.ownBlock = some k
/-- A block, its instructions and its next ones in blocks of their own, all newer than b. -/
structure PB (b : Nat) (w : World) (u : Bk) (t : TB) : Prop where
  pc : t.1.pc = u.pc
  ow : OW enT 8 InT blT (fun k => b < k) w t.1.iv u.ins t.2
  nx : Ro w 1 t.1.nv u.nx.length (flt enI u.nx)
  nb : ∀ k, t.1.nv.ownBlock = some k → b < k ∧ t.1.iv.ownBlock ≠ some k ∧ ∀ y ∈ t.2, ¬ blT y k
theorem stayB (b : Nat) : Stays (PB b) blB := fun S w w' u t h f hS =>
  ⟨h.pc, h.ow.fr stayT f (fun k _ hk => by
    rcases hk with q | ⟨y, hy, q⟩
    · exact hS k (.inl q)
    · exact hS k (.inr (.inl ⟨y, hy, q⟩))), h.nx.fr f (fun k hk => hS k (.inr (.inr hk))), h.nb⟩
theorem PB.gt {b : Nat} {w : World} {u : Bk} {t : TB} (h : PB b w u t) {k : Nat} (hk : blB t k) : b < k ∧ k < w.heap.size := by
  rcases hk with q | ⟨y, hy, q⟩ | q
  · exact h.ow.in (.inl q)
  · exact h.ow.in (.inr ⟨y, hy, q⟩)
  · exact ⟨(h.nb k q).1, h.nx.lt k q⟩
end Go.Proofs.YtpbdmbmafjkinaaDoor
