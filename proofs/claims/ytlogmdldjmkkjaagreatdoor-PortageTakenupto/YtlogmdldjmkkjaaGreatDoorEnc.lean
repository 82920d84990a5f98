/-
  Encode.
-/
import Derived.Test.YtlogmdldjmkkjaaGreatDoorOps2
import Derived.Test.YtlogmdldjmkkjaaGreatDoorRText
import Derived.Test.YtlogmdldjmkkjaaGreatDoorText
import Derived.Test.YtlogmdldjmkkjaaGreatDoorPRow
import Derived.ArgAppend
import Derived.Deep.Draws
import Derived.KernelRfl
import Derived.BigQuiet
import Derived.OwnWalk
import Derived.Laws.EntriesVeiled
import Derived.Deep.RegionHeld3
namespace Go.Proofs.YtlogmdldjmkkjaaGreatDoor
open Go.RowKit
set_option linter.unusedVariables false

/-- Values, as their cells. -/
def flat (l : List (Int × Int)) : List Value := l.flatMap (fun p => [.int .i64 p.1, .int .i64 p.2])
theorem flat_append (l m : List (Int × Int)) : flat (l ++ m) = flat l ++ flat m := List.flatMap_append
theorem flat_drop (l : List (Int × Int)) (k : Nat) : (flat l).drop (k * 2) = flat (l.drop k) := by
  induction l generalizing k with
  | nil => simp [flat]
  | cons p r ih =>
    cases k with
    | zero => rfl
    | succ k =>
      have := ih k
      rw [show (k + 1) * 2 = k * 2 + 2 by omega]
      simpa [flat] using this
theorem flat_at (l : List (Int × Int)) (k : Nat) (p : Int × Int) (h : l[k]? = some p) : (flat l)[k * 2]? = some (.int .i64 p.1) ∧ (flat l)[k * 2 + 1]? = some (.int .i64 p.2) := by
  have h1 : (flat l).drop (k * 2) = flat (l.drop k) := flat_drop l k
  obtain ⟨hk, hp⟩ := List.getElem?_eq_some_iff.1 h
  have h2 : l.drop k = p :: l.drop (k + 1) := by rw [← hp]; exact List.drop_eq_getElem_cons hk
  rw [h2] at h1
  have e0 := congrArg (fun q => q[0]?) h1
  have e1 := congrArg (fun q => q[1]?) h1
  simp only [List.getElem?_drop] at e0 e1
  exact ⟨by simpa [flat] using e0, by simpa [flat] using e1⟩

theorem two_new (w : World) (u v : Value) (e : TypeId) : (w.alloc (.cells #[u, v] e)).cell? ⟨w.heap.size, 0, none⟩ = some u ∧ (w.alloc (.cells #[u, v] e)).cell? ⟨w.heap.size, 1, none⟩ = some v := by
  have hg := heap_alloc_new w (.cells #[u, v] e)
  exact ⟨by simp only [World.cell?, hg]; rfl, by simp only [World.cell?, hg]; rfl⟩
theorem Tryz.info92 : (Tryz.prog.info? 92).map (fun i => (i.zero, i.size, i.bytes)) = some (some (.agg #[.int .i64 0, .int .i64 0]), 2, 16) := by kernel_rfl
theorem two_new' (w : World) (u v : Value) (e : TypeId) : ∀ j z, [u, v][j]? = some z → (w.alloc (.cells #[u, v] e)).cell? ((⟨w.heap.size, 0, none⟩ : Addr).add j) = some z := fun j z hz => by
  obtain ⟨b0, b1⟩ := two_new w u v e
  rw [Go.WideShapes.add_plain]
  have hj : j < 2 := (List.getElem?_eq_some_iff.1 hz).1
  match j, hj with
  | 0, _ => rw [show 0 + 0 = 0 from rfl, b0]; simpa using hz
  | 1, _ => rw [show 0 + 1 = 1 from rfl, b1]; simpa using hz
/-- A list of values as it came in. -/
def RtV (w : World) (v : Value) (l : List (Int × Int)) : Prop :=
  ∃ a cap, v = .slice a l.length cap ∧ l.length ≤ cap ∧ cap ≤ maxLen ∧ ∀ i p, l[i]? = some p → ∃ b off, a = some ⟨b, off, none⟩ ∧ b < w.heap.size ∧ w.cell? ⟨b, off + i * 2, none⟩ = some (.int .i64 p.1) ∧ w.cell? ⟨b, off + i * 2 + 1, none⟩ = some (.int .i64 p.2)
theorem wpList_appW {w : World} {ops : Array Oper} {rest : List Oper} {o : Oper} {a : Act} {Q : Exit → Act → World → Prop}
    (hg : o.guard = none) (s x : Operand) (hop : o.op = Op.call { callee := Callee.builtin Builtin.append, args := #[s, x], argTypes := #[70, 70] })
    (v : Value) (l : List (Int × Int)) (hs : a.eval s = v) (hr : Ro w 2 v l.length (flat l)) (ad : Addr) (c : Nat) (k n : Int) (hx : a.eval x = .slice (some ad) 1 c) (hc : ∀ j u, [Value.int .i64 k, .int .i64 n][j]? = some u → w.cell? (ad.add j) = some u)
    (hN : l.length ≤ 8796093022207)
    (hK : ∀ v' w', Ro w' 2 v' (l ++ [(k, n)]).length (flat (l ++ [(k, n)])) → w.grownBy w' v.ownBlock → (v'.ownBlock = v.ownBlock ∨ v'.ownBlock = some w.heap.size) → wpList Tryz.prog ops Q rest (a.put o.dst v') w') :
    wpList Tryz.prog ops Q (o :: rest) a w := by
  obtain ⟨i0, hi0, hz0, hz1, hz2⟩ := info_parts Tryz.info92
  refine wpList_app hg s x 70 hop 92 i0 _ 2 16 Tryz.underlying70 hi0 hz0 hz1 hz2 rfl (by decide) v l.length (flat l) hs hr ad 1 c [.int .i64 k, .int .i64 n] hx rfl hc (by simp [Value.oneCell']) (by omega) (by unfold maxLen; omega) (by omega) (fun v' w' r1 r2 r3 => hK v' w' ?_ r2 r3)
  rw [flat_append, List.length_append]
  exact r1
theorem RtV.below {w w' : World} {v : Value} {l : List (Int × Int)} (h : RtV w v l) (f : Below w.heap.size w w') : RtV w' v l := by
  obtain ⟨a, cap, e, h1, h2, h3⟩ := h
  refine ⟨a, cap, e, h1, h2, fun i p hp => ?_⟩
  obtain ⟨b, off, e2, hb, c0, c1⟩ := h3 i p hp
  exact ⟨b, off, e2, Nat.lt_of_lt_of_le hb f.size, (f.cell (p := ⟨b, off + i * 2, none⟩) hb).trans c0, (f.cell (p := ⟨b, off + i * 2 + 1, none⟩) hb).trans c1⟩
/-- A row of one's own that grows. -/
def Gw (w : World) (Q : List (Int × Int)) (v : Value) (wr : World) : Prop := Ro wr 2 v Q.length (flat Q) ∧ Below w.heap.size w wr ∧ ∀ k, v.ownBlock = some k → w.heap.size ≤ k
theorem Gw.push {w wr w' : World} {Q : List (Int × Int)} {v v' : Value} {p : Int × Int} {X : Obj} (h : Gw w Q v wr) (hr : Ro w' 2 v' (Q ++ [p]).length (flat (Q ++ [p]))) (hg : (wr.alloc X).grownBy w' v.ownBlock) (hat : v'.ownBlock = v.ownBlock ∨ v'.ownBlock = some (wr.alloc X).heap.size) : Gw w (Q ++ [p]) v' w' := by
  obtain ⟨h1, h2, h3⟩ := h
  have hs := h2.size
  have f : Fr (fun k => v.ownBlock = some k) wr w' := ((Fr.refl _ wr).alloc X).grown hg (fun k e => .inr e)
  refine ⟨hr, h2.trans (f.below hs (fun k hk e => by have := h3 k e; omega)), fun k hk => ?_⟩
  rcases hat with q | q
  · exact h3 k (q ▸ hk)
  · rw [q] at hk; cases hk; simp; omega
theorem itake_push (l : List (Int × Int)) (i : Nat) (p : Int × Int) (h : l[i]? = some p) : l.take (i + 1) = l.take i ++ [p] := by
  rw [List.take_add_one, h]; rfl
theorem Ro.pair {w : World} {v : Value} {Q : List (Int × Int)} (h : Ro w 2 v Q.length (flat Q)) {i : Nat} {p : Int × Int} (hp : Q[i]? = some p) :
    ∃ g off cap, v = .slice (some ⟨g, off, none⟩) Q.length cap ∧ Q.length ≤ cap ∧ cap ≤ maxLen ∧ g < w.heap.size ∧ w.cell? ⟨g, off + i * 2, none⟩ = some (.int .i64 p.1) ∧ w.cell? ⟨g, off + i * 2 + 1, none⟩ = some (.int .i64 p.2) := by
  have hi := (List.getElem?_eq_some_iff.1 hp).1
  obtain ⟨g, off, cap, e, h1, h2, h3, h4⟩ := h.full (by omega)
  obtain ⟨f0, f1⟩ := flat_at Q i p hp
  refine ⟨g, off, cap, e, h1, h2, h3, ?_, ?_⟩
  · rw [h4 (i * 2) (by omega)]; exact f0
  · rw [Nat.add_assoc, h4 (i * 2 + 1) (by omega)]; exact f1
theorem RtV.of_ro {w : World} {v : Value} {l : List (Int × Int)} (h : Ro w 2 v l.length (flat l)) : RtV w v l := by
  obtain ⟨a, cap, e, h1, h2⟩ := h.shape
  refine ⟨a, cap, e, h1, h2, fun i p hp => ?_⟩
  obtain ⟨g, off, cap', e', _, _, hl, c0, c1⟩ := h.pair hp
  rw [e] at e'
  cases e'
  exact ⟨g, off, rfl, hl, c0, c1⟩
/-- The functions of a kind's form. -/
def wF (k : Nat) : Nat := if k = 0 then 159 else if k = 1 then 161 else 163
def rF (k : Nat) : Nat := if k = 0 then 160 else if k = 1 then 162 else 164

set_option maxRecDepth 100000 in
set_option maxHeartbeats 2000000 in
theorem formOf_any (w : World) (k : Nat) : Calls Tryz.prog 122 #[.int .i64 k] w fun e w' => e = .returned (.agg #[.func (Fn.func (wF k)) #[] #[], .func (Fn.func (rF k)) #[] #[]]) ∧ Below w.heap.size w w' := by
  by_cases h0 : k = 0
  · subst h0
    go_enter Tryz.func122, Tryz.ntmps122
    go_wp2
    refine bodyPost_ret (v := .agg #[.func (Fn.func 159) #[] #[], .func (Fn.func 160) #[] #[]]) ?_ rfl ⟨rfl, (Below.refl _ _).alloc (Nat.le_refl _) _⟩
    rw [results_cell_one rfl]
    go_simp
  · by_cases h1 : k = 1
    · subst h1
      go_enter Tryz.func122, Tryz.ntmps122
      go_wp2
      refine bodyPost_ret (v := .agg #[.func (Fn.func 161) #[] #[], .func (Fn.func 162) #[] #[]]) ?_ rfl ⟨rfl, (Below.refl _ _).alloc (Nat.le_refl _) _⟩
      rw [results_cell_one rfl]
      go_simp
    · have e1 : wF k = 163 := by unfold wF; rw [if_neg h0, if_neg h1]
      have e2 : rF k = 164 := by unfold rF; rw [if_neg h0, if_neg h1]
      rw [e1, e2]
      have d0 : ((k : Int) == 0) = false := by simp; omega
      have d1 : ((k : Int) == 1) = false := by simp; omega
      clear e1 e2 h0 h1
      go_enter Tryz.func122, Tryz.ntmps122
      go_wp2
      refine bodyPost_ret (v := .agg #[.func (Fn.func 163) #[] #[], .func (Fn.func 164) #[] #[]]) ?_ rfl ⟨rfl, (Below.refl _ _).alloc (Nat.le_refl _) _⟩
      rw [results_cell_one rfl]
      go_simp

/-- The form of an operand. -/
def opF (k : Nat) (a : Int) : List Int := if k = 0 then [] else if k = 1 then Wm.uform 9 (foldI a).toNat else Wm.uform 9 (a % 18446744073709551616).toNat
theorem wrap_u (a : Int) : IntKind.u64.wrap a = ((a % 18446744073709551616).toNat : Int) := by rw [IntKind.wrap_u64]; omega

set_option linter.unusedVariables false

theorem Below.drewB {B : Nat} {w w' : World} (h : Below B w.drew w') : Below B w w' := ⟨h.os, h.tape, h.output, h.size, h.block⟩

/-- The form of an instruction, of a list. -/
def ifm (p : Int × Int) : List Int := p.1 :: opF (kd p.1.toNat) p.2
def efm (l : List (Int × Int)) : List Int := l.flatMap ifm
def okL (l : List (Int × Int)) : Bool := l.all (fun p => okB p.1 p.2)
def encE (l : List (Int × Int)) : Int := if 2000 < l.length then 5 else if okL l then 0 else 7
def encB (l : List (Int × Int)) : List Int := if encE l = 0 then efm l else []
theorem opF_len (k : Nat) (a : Int) : (opF k a).length ≤ 10 := by
  unfold opF
  split
  · simp
  · split
    · rw [Wm.uform_length]; exact (Wm.ulen_bd 9 _).2
    · rw [Wm.uform_length]; exact (Wm.ulen_bd 9 _).2
theorem efm_len (l : List (Int × Int)) : (efm l).length ≤ 11 * l.length := by
  induction l with
  | nil => simp [efm]
  | cons p r ih =>
    have := opF_len (kd p.1.toNat) p.2
    simp only [efm, List.flatMap_cons, List.length_append, ifm, List.length_cons] at ih ⊢
    omega
theorem efm_push (l : List (Int × Int)) (p : Int × Int) : efm (l ++ [p]) = efm l ++ ifm p := by simp [efm, List.flatMap_append]

/-- A writer of one's own, in the midst. -/
def EJ (w : World) (p : Nat) (bs : List Int) (v : Value) (wr : World) : Prop :=
  Wtr wr p v bs ∧ Below w.heap.size w wr ∧ (∀ k, v.ownBlock = some k → w.heap.size ≤ k) ∧ w.heap.size ≤ p
theorem EJ.below {w wr w' : World} {p : Nat} {bs : List Int} {v : Value} (h : EJ w p bs v wr) (b : Below wr.heap.size wr w') : EJ w p bs v w' :=
  ⟨h.1.keep (S := fun _ => False) (Fr.of_below b) (by simp) (by simp), Bl.go h.2.1 h.2.1.size b, h.2.2.1, h.2.2.2⟩
theorem EJ.step {w wr w' : World} {p : Nat} {bs bs' : List Int} {v v' : Value} (h : EJ w p bs v wr) (hW : Wtr w' p v' bs') (hT : WStep p wr v w' v') : EJ w p bs' v' w' := by
  obtain ⟨h1, h2, h3, h4⟩ := h
  refine ⟨hW, h2.trans (hT.fr.below h2.size (fun k hk => ?_)), fun k hk => ?_, h4⟩
  · rintro (e | e)
    · omega
    · have := h3 k e; omega
  · rcases hT.row with e | e
    · exact h3 k (e ▸ hk)
    · have := e k hk; have := h2.size; omega
theorem okL_no {l : List (Int × Int)} {i : Nat} {p : Int × Int} (hp : l[i]? = some p) (h : okB p.1 p.2 = false) : okL l = false := by
  cases e : okL l
  · rfl
  · have := List.all_eq_true.1 e p (List.mem_of_getElem? hp)
    simp [h] at this

theorem enterR (k : Nat) (args : Array Value) (w : World) : (callFunc (rF k) args).run Tryz.prog w = .ok (.enter (rF k) args) w := by
  unfold rF
  split
  · kernel_rfl
  · split <;> kernel_rfl

theorem own_low {w : World} {b b' : Nat} {e : TypeId} {size : Nat} {v : Value} {n : Nat} {xs : List Value} (h : w.ownsRow b e size v n xs) (hb : b' ≤ b) : w.ownsRow b' e size v n xs := by
  obtain ⟨h1, h2⟩ := h
  refine ⟨h1, ?_⟩
  rcases h2 with h2 | ⟨g, cap, cur, e1, e2, r⟩
  · exact .inl h2
  · exact .inr ⟨g, cap, cur, e1, Nat.le_trans hb e2, r⟩

/-- What Encode answers. -/
def EncPost (w : World) (l : List (Int × Int)) (e : Ending) (w' : World) : Prop :=
  ∃ v', e = .returned (.tuple #[v', .int .i64 (encE l)]) ∧ w'.ownsRow w.heap.size 5 1 v' (encB l).length ((encB l).map By) ∧ Below w.heap.size w w'

end Go.Proofs.YtlogmdldjmkkjaaGreatDoor
