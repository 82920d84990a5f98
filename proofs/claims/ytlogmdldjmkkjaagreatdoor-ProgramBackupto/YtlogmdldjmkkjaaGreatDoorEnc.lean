/-
  Encode.
-/
import Derived.Test.YtlogmdldjmkkjaaGreatDoorOps2
import Derived.Test.YtlogmdldjmkkjaaGreatDoorRText
import Derived.Test.YtlogmdldjmkkjaaGreatDoorText
import Derived.Test.YtlogmdldjmkkjaaGreatDoorPRow
import Derived.ArgAppend
import Derived.Deep.Draws
import Derived.KernelRfl
import Derived.BigQuiet
import Derived.OwnWalk
import Derived.Laws.EntriesVeiled
import Derived.Deep.RegionHeld3
namespace Go.Proofs.YtlogmdldjmkkjaaGreatDoor
open Go.RowKit
set_option linter.unusedVariables false

theorem Fr.idrewN {S : Nat → Prop} {w : World} (n : Nat) : Fr S w (w.drewN n) := ⟨rfl, rfl, rfl, Nat.le_refl _, fun _ _ _ => rfl⟩

/-- Values, as their cells. -/
def flat (l : List (Int × Int)) : List Value := l.flatMap (fun p => [.int .i64 p.1, .int .i64 p.2])
theorem flat_length (l : List (Int × Int)) : (flat l).length = l.length * 2 := by
  induction l with
  | nil => rfl
  | cons p r ih => simp only [flat, List.flatMap_cons, List.length_append, List.length_cons, List.length_nil] at ih ⊢; omega
theorem flat_append (l m : List (Int × Int)) : flat (l ++ m) = flat l ++ flat m := List.flatMap_append
theorem flat_one (p : Int × Int) : flat [p] = [.int .i64 p.1, .int .i64 p.2] := rfl
theorem flat_drop (l : List (Int × Int)) (k : Nat) : (flat l).drop (k * 2) = flat (l.drop k) := by
  induction l generalizing k with
  | nil => simp [flat]
  | cons p r ih =>
    cases k with
    | zero => rfl
    | succ k =>
      have := ih k
      rw [show (k + 1) * 2 = k * 2 + 2 by omega]
      simpa [flat] using this
theorem flat_take (l : List (Int × Int)) (k : Nat) : (flat l).take (k * 2) = flat (l.take k) := by
  induction l generalizing k with
  | nil => simp [flat]
  | cons p r ih =>
    cases k with
    | zero => rfl
    | succ k =>
      have := ih k
      rw [show (k + 1) * 2 = k * 2 + 2 by omega]
      simpa [flat] using this
theorem flat_at (l : List (Int × Int)) (k : Nat) (p : Int × Int) (h : l[k]? = some p) : (flat l)[k * 2]? = some (.int .i64 p.1) ∧ (flat l)[k * 2 + 1]? = some (.int .i64 p.2) := by
  have h1 : (flat l).drop (k * 2) = flat (l.drop k) := flat_drop l k
  obtain ⟨hk, hp⟩ := List.getElem?_eq_some_iff.1 h
  have h2 : l.drop k = p :: l.drop (k + 1) := by rw [← hp]; exact List.drop_eq_getElem_cons hk
  rw [h2] at h1
  have e0 := congrArg (fun q => q[0]?) h1
  have e1 := congrArg (fun q => q[1]?) h1
  simp only [List.getElem?_drop] at e0 e1
  exact ⟨by simpa [flat] using e0, by simpa [flat] using e1⟩

theorem two_new (w : World) (u v : Value) (e : TypeId) : (w.alloc (.cells #[u, v] e)).cell? ⟨w.heap.size, 0, none⟩ = some u ∧ (w.alloc (.cells #[u, v] e)).cell? ⟨w.heap.size, 1, none⟩ = some v := by
  have hg := heap_alloc_new w (.cells #[u, v] e)
  exact ⟨by simp only [World.cell?, hg]; rfl, by simp only [World.cell?, hg]; rfl⟩
theorem Tryz.info92 : (Tryz.prog.info? 92).map (fun i => (i.zero, i.size, i.bytes)) = some (some (.agg #[.int .i64 0, .int .i64 0]), 2, 16) := by kernel_rfl
theorem two_new' (w : World) (u v : Value) (e : TypeId) : ∀ j z, [u, v][j]? = some z → (w.alloc (.cells #[u, v] e)).cell? ((⟨w.heap.size, 0, none⟩ : Addr).add j) = some z := fun j z hz => by
  obtain ⟨b0, b1⟩ := two_new w u v e
  rw [Go.WideShapes.add_plain]
  have hj : j < 2 := (List.getElem?_eq_some_iff.1 hz).1
  match j, hj with
  | 0, _ => rw [show 0 + 0 = 0 from rfl, b0]; simpa using hz
  | 1, _ => rw [show 0 + 1 = 1 from rfl, b1]; simpa using hz
/-- A list of values as it came in. -/
def RtV (w : World) (v : Value) (l : List (Int × Int)) : Prop :=
  ∃ a cap, v = .slice a l.length cap ∧ l.length ≤ cap ∧ cap ≤ maxLen ∧ ∀ i p, l[i]? = some p → ∃ b off, a = some ⟨b, off, none⟩ ∧ b < w.heap.size ∧ w.cell? ⟨b, off + i * 2, none⟩ = some (.int .i64 p.1) ∧ w.cell? ⟨b, off + i * 2 + 1, none⟩ = some (.int .i64 p.2)
theorem wpList_appW {w : World} {ops : Array Oper} {rest : List Oper} {o : Oper} {a : Act} {Q : Exit → Act → World → Prop}
    (hg : o.guard = none) (s x : Operand) (hop : o.op = Op.call { callee := Callee.builtin Builtin.append, args := #[s, x], argTypes := #[70, 70] })
    (v : Value) (l : List (Int × Int)) (hs : a.eval s = v) (hr : Ro w 2 v l.length (flat l)) (ad : Addr) (c : Nat) (k n : Int) (hx : a.eval x = .slice (some ad) 1 c) (hc : ∀ j u, [Value.int .i64 k, .int .i64 n][j]? = some u → w.cell? (ad.add j) = some u)
    (hN : l.length ≤ 8796093022207)
    (hK : ∀ v' w', Ro w' 2 v' (l ++ [(k, n)]).length (flat (l ++ [(k, n)])) → w.grownBy w' v.ownBlock → (v'.ownBlock = v.ownBlock ∨ v'.ownBlock = some w.heap.size) → wpList Tryz.prog ops Q rest (a.put o.dst v') w') :
    wpList Tryz.prog ops Q (o :: rest) a w := by
  obtain ⟨i0, hi0, hz0, hz1, hz2⟩ := info_parts Tryz.info92
  refine wpList_app hg s x 70 hop 92 i0 _ 2 16 Tryz.underlying70 hi0 hz0 hz1 hz2 rfl (by decide) v l.length (flat l) hs hr ad 1 c [.int .i64 k, .int .i64 n] hx rfl hc (by simp [Value.oneCell']) (by omega) (by unfold maxLen; omega) (by omega) (fun v' w' r1 r2 r3 => hK v' w' ?_ r2 r3)
  rw [flat_append, List.length_append]
  exact r1
theorem RtV.below {w w' : World} {v : Value} {l : List (Int × Int)} (h : RtV w v l) (f : Below w.heap.size w w') : RtV w' v l := by
  obtain ⟨a, cap, e, h1, h2, h3⟩ := h
  refine ⟨a, cap, e, h1, h2, fun i p hp => ?_⟩
  obtain ⟨b, off, e2, hb, c0, c1⟩ := h3 i p hp
  exact ⟨b, off, e2, Nat.lt_of_lt_of_le hb f.size, (f.cell (p := ⟨b, off + i * 2, none⟩) hb).trans c0, (f.cell (p := ⟨b, off + i * 2 + 1, none⟩) hb).trans c1⟩
/-- A row of one's own that grows. -/
def Gw (w : World) (Q : List (Int × Int)) (v : Value) (wr : World) : Prop := Ro wr 2 v Q.length (flat Q) ∧ Below w.heap.size w wr ∧ ∀ k, v.ownBlock = some k → w.heap.size ≤ k
theorem Gw.push {w wr w' : World} {Q : List (Int × Int)} {v v' : Value} {p : Int × Int} {X : Obj} (h : Gw w Q v wr) (hr : Ro w' 2 v' (Q ++ [p]).length (flat (Q ++ [p]))) (hg : (wr.alloc X).grownBy w' v.ownBlock) (hat : v'.ownBlock = v.ownBlock ∨ v'.ownBlock = some (wr.alloc X).heap.size) : Gw w (Q ++ [p]) v' w' := by
  obtain ⟨h1, h2, h3⟩ := h
  have hs := h2.size
  have f : Fr (fun k => v.ownBlock = some k) wr w' := ((Fr.refl _ wr).alloc X).grown hg (fun k e => .inr e)
  refine ⟨hr, h2.trans (f.below hs (fun k hk e => by have := h3 k e; omega)), fun k hk => ?_⟩
  rcases hat with q | q
  · exact h3 k (q ▸ hk)
  · rw [q] at hk; cases hk; simp; omega
def imarks (n : Nat) : List (Int × Int) := (List.range n).map (fun (i : Nat) => ((-9 : Int), (i : Int)))
theorem imarks_succ (n : Nat) : imarks (n + 1) = imarks n ++ [(-9, (n : Int))] := by simp [imarks, List.range_succ]
theorem imarks_length (n : Nat) : (imarks n).length = n := by simp [imarks]
theorem itake_push (l : List (Int × Int)) (i : Nat) (p : Int × Int) (h : l[i]? = some p) : l.take (i + 1) = l.take i ++ [p] := by
  rw [List.take_add_one, h]; rfl
theorem Ro.pair {w : World} {v : Value} {Q : List (Int × Int)} (h : Ro w 2 v Q.length (flat Q)) {i : Nat} {p : Int × Int} (hp : Q[i]? = some p) :
    ∃ g off cap, v = .slice (some ⟨g, off, none⟩) Q.length cap ∧ Q.length ≤ cap ∧ cap ≤ maxLen ∧ g < w.heap.size ∧ w.cell? ⟨g, off + i * 2, none⟩ = some (.int .i64 p.1) ∧ w.cell? ⟨g, off + i * 2 + 1, none⟩ = some (.int .i64 p.2) := by
  have hi := (List.getElem?_eq_some_iff.1 hp).1
  obtain ⟨g, off, cap, e, h1, h2, h3, h4⟩ := h.full (by omega)
  obtain ⟨f0, f1⟩ := flat_at Q i p hp
  refine ⟨g, off, cap, e, h1, h2, h3, ?_, ?_⟩
  · rw [h4 (i * 2) (by omega)]; exact f0
  · rw [Nat.add_assoc, h4 (i * 2 + 1) (by omega)]; exact f1
theorem RtV.of_ro {w : World} {v : Value} {l : List (Int × Int)} (h : Ro w 2 v l.length (flat l)) : RtV w v l := by
  obtain ⟨a, cap, e, h1, h2⟩ := h.shape
  refine ⟨a, cap, e, h1, h2, fun i p hp => ?_⟩
  obtain ⟨g, off, cap', e', _, _, hl, c0, c1⟩ := h.pair hp
  rw [e] at e'
  cases e'
  exact ⟨g, off, rfl, hl, c0, c1⟩
theorem ilm_left (l : List (Int × Int)) (i : Nat) (p : Int × Int) (h : l[i]? = some p) : (l ++ imarks 64)[i]? = some p := by
  rw [List.getElem?_append_left (List.getElem?_eq_some_iff.1 h).1]; exact h
theorem ilm_right (l : List (Int × Int)) (i : Nat) (h1 : l.length ≤ i) (h2 : i < l.length + 64) : (l ++ imarks 64)[i]? = some (-9, (i : Int) - (l.length : Int)) := by
  rw [List.getElem?_append_right h1]
  simp [imarks, List.getElem?_range (show i - l.length < 64 by omega)]
  omega
theorem ilm_length (l : List (Int × Int)) : (l ++ imarks 64).length = l.length + 64 := by rw [List.length_append, imarks_length]


/-- The functions of a kind's form. -/
def wF (k : Nat) : Nat := if k = 0 then 159 else if k = 1 then 161 else 163
def rF (k : Nat) : Nat := if k = 0 then 160 else if k = 1 then 162 else 164

set_option maxRecDepth 100000 in
set_option maxHeartbeats 2000000 in
theorem formOf_any (w : World) (k : Nat) : Calls Tryz.prog 122 #[.int .i64 k] w fun e w' => e = .returned (.agg #[.func (Fn.func (wF k)) #[] #[], .func (Fn.func (rF k)) #[] #[]]) ∧ Below w.heap.size w w' := by
  by_cases h0 : k = 0
  · subst h0
    go_enter Tryz.func122, Tryz.ntmps122
    go_wp2
    refine bodyPost_ret (v := .agg #[.func (Fn.func 159) #[] #[], .func (Fn.func 160) #[] #[]]) ?_ rfl ⟨rfl, (Below.refl _ _).alloc (Nat.le_refl _) _⟩
    rw [results_cell_one rfl]
    go_simp
  · by_cases h1 : k = 1
    · subst h1
      go_enter Tryz.func122, Tryz.ntmps122
      go_wp2
      refine bodyPost_ret (v := .agg #[.func (Fn.func 161) #[] #[], .func (Fn.func 162) #[] #[]]) ?_ rfl ⟨rfl, (Below.refl _ _).alloc (Nat.le_refl _) _⟩
      rw [results_cell_one rfl]
      go_simp
    · have e1 : wF k = 163 := by unfold wF; rw [if_neg h0, if_neg h1]
      have e2 : rF k = 164 := by unfold rF; rw [if_neg h0, if_neg h1]
      rw [e1, e2]
      have d0 : ((k : Int) == 0) = false := by simp; omega
      have d1 : ((k : Int) == 1) = false := by simp; omega
      clear e1 e2 h0 h1
      go_enter Tryz.func122, Tryz.ntmps122
      go_wp2
      refine bodyPost_ret (v := .agg #[.func (Fn.func 163) #[] #[], .func (Fn.func 164) #[] #[]]) ?_ rfl ⟨rfl, (Below.refl _ _).alloc (Nat.le_refl _) _⟩
      rw [results_cell_one rfl]
      go_simp

/-- The form of an operand. -/
def opF (k : Nat) (a : Int) : List Int := if k = 0 then [] else if k = 1 then Wm.uform 9 (foldI a).toNat else Wm.uform 9 (a % 18446744073709551616).toNat
theorem wrap_u (a : Int) : IntKind.u64.wrap a = ((a % 18446744073709551616).toNat : Int) := by rw [IntKind.wrap_u64]; omega

set_option maxRecDepth 100000 in
set_option maxHeartbeats 2000000 in
theorem write_any (k : Nat) (p : Nat) (v : Value) (bs : List Int) (a : Int) (w : World) (h : Wtr w p v bs) (hb : bs.length + 10 ≤ 140737488355328) (ha : I64 a) :
    Calls Tryz.prog (wF k) #[.pointer (some ⟨p, 0, none⟩), .int .i64 a] w fun e w' => e = .returned (.tuple #[]) ∧ ∃ v', Wtr w' p v' (bs ++ opF k a) ∧ WStep p w v w' v' := by
  by_cases h0 : k = 0
  · subst h0
    have e : opF 0 a = [] := rfl
    have hh := hide h
    rw [e, List.append_nil]
    clear e h
    show Calls Tryz.prog 159 _ _ _
    go_enter Tryz.func159, Tryz.ntmps159
    go_wp2
    go_end0
    exact ⟨rfl, v, unhide hh, WStep.refl _ _ _⟩
  · by_cases h1 : k = 1
    · subst h1
      exact int_any p v bs a w h hb ha.1 ha.2
    · have e1 : wF k = 163 := by unfold wF; rw [if_neg h0, if_neg h1]
      have e2 : opF k a = Wm.uform 9 (a % 18446744073709551616).toNat := by unfold opF; rw [if_neg h0, if_neg h1]
      rw [e1, e2]
      have H1 := hide (uint_any p v bs (a % 18446744073709551616).toNat w h hb (by omega))
      have hw := wrap_u a
      generalize (a % 18446744073709551616).toNat = x at *
      clear e1 e2 h0 h1 h hb ha
      go_enter Tryz.func163, Tryz.ntmps163
      go_wp2_with fail
      refine (unhide H1).mono ?_
      rintro e w' ⟨rfl, hh⟩
      go_wp2
      go_end0
      exact ⟨rfl, hh⟩

set_option linter.unusedVariables false

theorem Below.drewB {B : Nat} {w w' : World} (h : Below B w.drew w') : Below B w w' := ⟨h.os, h.tape, h.output, h.size, h.block⟩

/-- The form of an instruction, of a list. -/
def ifm (p : Int × Int) : List Int := p.1 :: opF (kd p.1.toNat) p.2
def efm (l : List (Int × Int)) : List Int := l.flatMap ifm
def okL (l : List (Int × Int)) : Bool := l.all (fun p => okB p.1 p.2)
def encE (l : List (Int × Int)) : Int := if 2000 < l.length then 5 else if okL l then 0 else 7
def encB (l : List (Int × Int)) : List Int := if encE l = 0 then efm l else []
theorem opF_len (k : Nat) (a : Int) : (opF k a).length ≤ 10 := by
  unfold opF
  split
  · simp
  · split
    · rw [Wm.uform_length]; exact (Wm.ulen_bd 9 _).2
    · rw [Wm.uform_length]; exact (Wm.ulen_bd 9 _).2
theorem efm_len (l : List (Int × Int)) : (efm l).length ≤ 11 * l.length := by
  induction l with
  | nil => simp [efm]
  | cons p r ih =>
    have := opF_len (kd p.1.toNat) p.2
    simp only [efm, List.flatMap_cons, List.length_append, ifm, List.length_cons] at ih ⊢
    omega
theorem efm_push (l : List (Int × Int)) (p : Int × Int) : efm (l ++ [p]) = efm l ++ ifm p := by simp [efm, List.flatMap_append]

/-- A writer of one's own, in the midst. -/
def EJ (w : World) (p : Nat) (bs : List Int) (v : Value) (wr : World) : Prop :=
  Wtr wr p v bs ∧ Below w.heap.size w wr ∧ (∀ k, v.ownBlock = some k → w.heap.size ≤ k) ∧ w.heap.size ≤ p
theorem EJ.below {w wr w' : World} {p : Nat} {bs : List Int} {v : Value} (h : EJ w p bs v wr) (b : Below wr.heap.size wr w') : EJ w p bs v w' :=
  ⟨h.1.keep (S := fun _ => False) (Fr.of_below b) (by simp) (by simp), Bl.go h.2.1 h.2.1.size b, h.2.2.1, h.2.2.2⟩
theorem EJ.step {w wr w' : World} {p : Nat} {bs bs' : List Int} {v v' : Value} (h : EJ w p bs v wr) (hW : Wtr w' p v' bs') (hT : WStep p wr v w' v') : EJ w p bs' v' w' := by
  obtain ⟨h1, h2, h3, h4⟩ := h
  refine ⟨hW, h2.trans (hT.fr.below h2.size (fun k hk => ?_)), fun k hk => ?_, h4⟩
  · rintro (e | e)
    · omega
    · have := h3 k e; omega
  · rcases hT.row with e | e
    · exact h3 k (e ▸ hk)
    · have := e k hk; have := h2.size; omega
theorem okL_no {l : List (Int × Int)} {i : Nat} {p : Int × Int} (hp : l[i]? = some p) (h : okB p.1 p.2 = false) : okL l = false := by
  cases e : okL l
  · rfl
  · have := List.all_eq_true.1 e p (List.mem_of_getElem? hp)
    simp [h] at this

theorem enterW (k : Nat) (args : Array Value) (w : World) : (callFunc (wF k) args).run Tryz.prog w = .ok (.enter (wF k) args) w := by
  unfold wF
  split
  · kernel_rfl
  · split <;> kernel_rfl
theorem enterR (k : Nat) (args : Array Value) (w : World) : (callFunc (rF k) args).run Tryz.prog w = .ok (.enter (rF k) args) w := by
  unfold rF
  split
  · kernel_rfl
  · split <;> kernel_rfl

theorem own_low {w : World} {b b' : Nat} {e : TypeId} {size : Nat} {v : Value} {n : Nat} {xs : List Value} (h : w.ownsRow b e size v n xs) (hb : b' ≤ b) : w.ownsRow b' e size v n xs := by
  obtain ⟨h1, h2⟩ := h
  refine ⟨h1, ?_⟩
  rcases h2 with h2 | ⟨g, cap, cur, e1, e2, r⟩
  · exact .inl h2
  · exact .inr ⟨g, cap, cur, e1, Nat.le_trans hb e2, r⟩

/-- What Encode answers. -/
def EncPost (w : World) (l : List (Int × Int)) (e : Ending) (w' : World) : Prop :=
  ∃ v', e = .returned (.tuple #[v', .int .i64 (encE l)]) ∧ w'.ownsRow w.heap.size 5 1 v' (encB l).length ((encB l).map By) ∧ Below w.heap.size w w'

set_option maxRecDepth 100000 in
set_option maxHeartbeats 4000000 in
theorem encode_any {w : World} {lv : Value} {l : List (Int × Int)} (h : RtV w lv l) (hN : l.length ≤ 8796093021952) (hI : ∀ p ∈ l, I64 p.1 ∧ I64 p.2) :
    Calls Tryz.prog 77 #[lv] w fun e w' => EncPost w l e w' := by
  have HR := hide h
  obtain ⟨a0, cap, rfl, hlc, hcm, hcell⟩ := h
  have HC := hide hcell
  obtain ⟨L, hL⟩ : ∃ L, Hid (l.length = L) := ⟨_, rfl⟩
  rw [unhide hL] at hN hlc ⊢
  clear hcell HR
  by_cases h2 : 2000 < L
  · have HE : Hid (encE l = 5 ∧ encB l = []) := by
      have e : encE l = 5 := by unfold encE; rw [if_pos (by rw [unhide hL]; exact h2)]
      exact ⟨e, by unfold encB; rw [e]; rfl⟩
    clear hI HC
    go_enter Tryz.func77, Tryz.ntmps77
    go_wp2_with fail
    go_ret2
    refine ⟨.slice none 0 0, by rw [(unhide HE).1]; rfl, ?_, Below.refl _ _⟩
    rw [(unhide HE).2]
    exact World.ownsRow_nil _ _ _ _
  · have HW := hide (fun (w : World) => newWriter_any w _ rfl)
    have HFf := hide formOf_any
    have HII := hide hI
    clear hI
    go_enter Tryz.func77, Tryz.ntmps77
    go_wp2_with fail
    refine (unhide HW _).mono ?_
    rintro e w1 ⟨rfl, hW, hb, hl⟩
    obtain ⟨p, hp⟩ : ∃ p, Hid (p = w.heap.size) := ⟨_, rfl⟩
    rw [← unhide hp] at hW hb hl ⊢
    have J0 : Hid (EJ w p (efm (l.take 0)) (.slice none 0 0) w1 ∧ okL (l.take 0) = true) := ⟨⟨by simpa [efm] using hW, by rw [unhide hp] at hb; exact hb, by simp [Value.ownBlock], by rw [unhide hp]; exact Nat.le_refl _⟩, by simp [okL]⟩
    clear hW hb hl
    go_wp2_with fail
    go_loopg [14] L (fun g t14 wr => ∃ (i : Nat) (v : Value), Hid (i + g = L) ∧ t14 = .int .i64 (i : Int) ∧ Hid (EJ w p (efm (l.take i)) v wr ∧ okL (l.take i) = true))
    case atStart => exact ⟨0, _, by unfold Hid; omega, rfl, J0⟩
    case round =>
      clear J0
      obtain ⟨i, v, hi, rfl, hJ⟩ := hrel
      by_cases hlt : i < L
      · have hil : i < l.length := by rw [unhide hL]; exact hlt
        obtain ⟨⟨op, a⟩, hpr⟩ : ∃ q, l[i]? = some q := ⟨_, List.getElem?_eq_getElem hil⟩
        obtain ⟨b, off, rfl, hb, c0, c1⟩ := unhide HC i _ hpr
        obtain ⟨hIo, hIa⟩ := unhide HII _ (List.mem_of_getElem? hpr)
        simp only at hIo hIa
        have hs := (unhide hJ).1.2.1
        have k0 := (hs.cell (p := ⟨b, off + i * 2, none⟩) hb).trans c0
        have k1 := (hs.cell (p := ⟨b, off + i * 2 + 1, none⟩) hb).trans c1
        have hbr := Nat.lt_of_lt_of_le hb hs.size
        have i0 : (0 : Int) ≤ (i : Int) := by omega
        have i1 : (i : Int) < (L : Int) := by omega
        have htk : Hid (l.take (i + 1) = l.take i ++ [(op, a)]) := itake_push l i _ hpr
        have hbl : Hid ((efm (l.take i)).length ≤ 22000) := by
          have := efm_len (l.take i)
          have : (l.take i).length ≤ i := List.length_take_le _ _
          unfold Hid; omega
        obtain ⟨bs, hbs⟩ : ∃ bs, Hid (bs = efm (l.take i)) := ⟨_, rfl⟩
        have J1 : Hid (EJ w p bs v wr) := by rw [unhide hbs]; exact (unhide hJ).1
        have HBL : Hid (bs.length ≤ 22000) := by rw [unhide hbs]; exact unhide hbl
        have HP := hide hpr
        have HIA := hide hIa
        have HCk := hide (fun w => check_any w op a)
        have Hk : Hid (erN op a = if okB op a then 0 else 7) := rfl
        clear hs c0 c1 hpr hbl hIo hIa hil
        cases hok : okB op a
        · have her : erN op a = 7 := by rw [unhide Hk, hok]; rfl
          rw [her] at HCk
          have HE : Hid (encE l = 7 ∧ encB l = []) := by
            have e : encE l = 7 := by unfold encE; rw [if_neg (by rw [unhide hL]; exact h2), okL_no (unhide HP) hok]; rfl
            exact ⟨e, by unfold encB; rw [e]; rfl⟩
          clear her hok Hk
          go_wp2_with fail
          refine (unhide HCk _).mono ?_
          rintro e w2 ⟨rfl, hb2⟩
          have B2 := hide (Bl.par hb2)
          clear hb2
          go_wp2_with fail
          go_ret2
          refine ⟨.slice none 0 0, by rw [(unhide HE).1]; rfl, ?_, Bl.go (unhide J1).2.1 (unhide J1).2.1.size (unhide B2)⟩
          rw [(unhide HE).2]
          exact World.ownsRow_nil _ _ _ _
        · have her : erN op a = 0 := by rw [unhide Hk, hok]; rfl
          rw [her] at HCk
          have hop : isOp op = true := by simp [okB] at hok; exact hok.1
          have ho : 0 ≤ op ∧ op < 67 := by simpa [isOp] using hop
          obtain ⟨k, rfl⟩ : ∃ k : Nat, op = k := ⟨op.toNat, by omega⟩
          have hk : k < 67 := by omega
          have HSh := hide (fun w => shapeOf_any w k hk)
          have HFo := hide (fun w => unhide HFf w (kd k))
          have HOK := hide hok
          have hwr : IntKind.u8.wrap (k : Int) = (k : Int) := by rw [IntKind.wrap_u8]; omega
          have hf3 := fld3_0
          have hent := enterW (kd k)
          have hf2 : ∀ (a b : Value) (w : World), (Instr.field 195 (.agg #[a, b]) 0).run Tryz.prog w = .ok a w := fun a b w => by kernel_rfl
          clear her hok Hk hop ho hk
          go_wp2_with fail
          refine (unhide HCk _).mono ?_
          rintro e w1' ⟨rfl, hb1⟩
          obtain ⟨c0, c1⟩ := par_cells hb1
          have J1' := hide ((unhide J1).below (Bl.par hb1))
          have hpl : Hid (p < wr.heap.size ∧ ∀ q, v.ownBlock = some q → q < wr.heap.size) := ⟨(unhide J1).1.lt, (unhide J1).1.row_lt⟩
          clear hb1
          go_wp2_with fail
          refine (byte_any p v bs (k : Int) _ (unhide J1').1 (by have := unhide HBL; omega)).mono ?_
          rintro e w2 ⟨rfl, v2, hW2, hT2⟩
          have J2 := hide ((unhide J1').step hW2 hT2)
          have nf : ¬ Foot p v wr.heap.size := by
            rintro (e | e)
            · have := (unhide hpl).1; omega
            · have := (unhide hpl).2 _ e; omega
          have hS : w2.cell? ⟨wr.heap.size, 0, none⟩ = some (.int .i64 (k : Int)) ∧ w2.cell? ⟨wr.heap.size, 1, none⟩ = some (.int .i64 a) := ⟨(hT2.fr.cell (a := ⟨wr.heap.size, 0, none⟩) (World.block_lt_of_cell? w1' _ c0) nf).trans c0, (hT2.fr.cell (a := ⟨wr.heap.size, 1, none⟩) (World.block_lt_of_cell? w1' _ c1) nf).trans c1⟩
          have HNF : Hid (¬ Foot p v2 wr.heap.size) := by
            rintro (e | e)
            · have := (unhide hpl).1; omega
            · rcases hT2.row with q | q
              · rw [q] at e; have := (unhide hpl).2 _ e; omega
              · have q1 := q _ e
                have q2 := World.block_lt_of_cell? w1' _ c0
                simp at q2
                omega
          clear hW2 hT2 nf c0 c1
          go_wp2_with fail
          refine wp_region_held_drew (S := (fun wx => wx.cell? ⟨wr.heap.size, 0, none⟩ = some (.int .i64 (k : Int)) ∧ wx.cell? ⟨wr.heap.size, 1, none⟩ = some (.int .i64 a))) (by kernel_rfl) hS (fun hHeld => ?_)
          refine wpAnyH_take (i := 0) (oi := _) (v := .pointer (some ⟨wr.heap.size, 0, none⟩)) rfl (by kernel_rfl) (by kernel_rfl) (by kernel_rfl) (fun _ _ _ h => h) (Or.inl ⟨by rfl, (by intro w hSw; go_simp)⟩) (by assumption) ?_
          refine wpAnyH_take (i := 1) (oi := _) (v := .int .i64 (k : Int)) rfl (by kernel_rfl) (by kernel_rfl) (by kernel_rfl) (fun _ _ _ h => h) (Or.inl ⟨by rfl, (by intro w hSw; obtain ⟨hs0, hs1⟩ := hSw; go_simp)⟩) (by assumption) ?_
          refine wpAnyH_take (i := 6) (oi := _) (v := .pointer (some ⟨p, 0, none⟩)) rfl (by kernel_rfl) (by kernel_rfl) (by kernel_rfl) (fun _ _ _ h => h) (Or.inl ⟨by rfl, (by intro w hSw; go_simp)⟩) (by assumption) ?_
          go_simp
          refine wpAnyH_take (i := 7) (oi := _) (v := .pointer (some ⟨wr.heap.size, 1, none⟩)) rfl (by kernel_rfl) (by kernel_rfl) (by kernel_rfl) (fun _ _ _ h => h) (Or.inl ⟨by rfl, (by intro w hSw; go_simp)⟩) (by assumption) ?_
          refine wpAnyH_take (i := 8) (oi := _) (v := .int .i64 a) rfl (by kernel_rfl) (by kernel_rfl) (by kernel_rfl) (fun _ _ _ h => h) (Or.inl ⟨by rfl, (by intro w hSw; obtain ⟨hs0, hs1⟩ := hSw; go_simp)⟩) (by assumption) ?_
          go_simp
          refine wpAnyH_ready (rs := [2]) (by kernel_rfl) (by simp) ?_
          refine AllReadyH.cons (o := _) rfl (fun K hK => ?_) AllReadyH.nil
          go_simp
          refine (unhide HSh _).mono ?_
          rintro e w3 ⟨rfl, hb3⟩
          have J3 := hide ((unhide J2).below (Below.drewB hb3))
          have S3 : w3.cell? ⟨wr.heap.size, 0, none⟩ = some (.int .i64 (k : Int)) ∧ w3.cell? ⟨wr.heap.size, 1, none⟩ = some (.int .i64 a) := ⟨(hb3.cell (p := ⟨wr.heap.size, 0, none⟩) (World.block_lt_of_cell? w2 _ hS.1)).trans hS.1, (hb3.cell (p := ⟨wr.heap.size, 1, none⟩) (World.block_lt_of_cell? w2 _ hS.2)).trans hS.2⟩
          clear hb3
          go_simp
          refine hK.out _ _ S3 (fun hHeld1 => ?_)
          clear hK K
          refine wpAnyH_take (i := 3) (oi := _) (v := .int .i64 ((kd k : Nat) : Int)) rfl (by kernel_rfl) (by kernel_rfl) (by kernel_rfl) (fun _ _ _ h => h) (Or.inl ⟨by rfl, (by intro w hSw; go_simp)⟩) (by assumption) ?_
          refine wpAnyH_ready (rs := [4]) (by kernel_rfl) (by simp) ?_
          refine AllReadyH.cons (o := _) rfl (fun K hK => ?_) AllReadyH.nil
          go_simp
          refine (unhide HFo _).mono ?_
          rintro e w4 ⟨rfl, hb4⟩
          have J4 := hide ((unhide J3).below hb4)
          have S4 : w4.cell? ⟨wr.heap.size, 0, none⟩ = some (.int .i64 (k : Int)) ∧ w4.cell? ⟨wr.heap.size, 1, none⟩ = some (.int .i64 a) := ⟨(hb4.cell (p := ⟨wr.heap.size, 0, none⟩) (World.block_lt_of_cell? w3 _ S3.1)).trans S3.1, (hb4.cell (p := ⟨wr.heap.size, 1, none⟩) (World.block_lt_of_cell? w3 _ S3.2)).trans S3.2⟩
          clear hb4
          go_simp
          refine hK.out _ _ S4 (fun hHeld2 => ?_)
          clear hK K
          refine wpAnyH_take (i := 5) (oi := _) (v := .func (Fn.func (wF (kd k))) #[] #[]) rfl (by kernel_rfl) (by kernel_rfl) (by kernel_rfl) (fun _ _ _ h => h) (Or.inl ⟨by rfl, (by intro w hSw; go_simp)⟩) (by assumption) ?_
          refine wpAnyH_ready (rs := [9]) (by kernel_rfl) (by simp) ?_
          refine AllReadyH.cons (o := _) rfl (fun K hK => ?_) AllReadyH.nil
          go_simp
          refine (write_any (kd k) p v2 (bs ++ [(k : Int)]) a _ (unhide J4).1 (by rw [List.length_append, List.length_singleton]; have := unhide HBL; omega) (unhide HIA)).mono ?_
          rintro e w5 ⟨rfl, v5, hW5, hT5⟩
          have J5 := hide ((unhide J4).step hW5 hT5)
          have S5 : w5.cell? ⟨wr.heap.size, 0, none⟩ = some (.int .i64 (k : Int)) ∧ w5.cell? ⟨wr.heap.size, 1, none⟩ = some (.int .i64 a) := ⟨(hT5.fr.cell (a := ⟨wr.heap.size, 0, none⟩) (World.block_lt_of_cell? w4 _ S4.1) (unhide HNF)).trans S4.1, (hT5.fr.cell (a := ⟨wr.heap.size, 1, none⟩) (World.block_lt_of_cell? w4 _ S4.2) (unhide HNF)).trans S4.2⟩
          clear hW5 hT5
          go_simp
          refine hK.out _ _ S5 (fun hHeld3 => ?_)
          clear hK K
          refine wpAnyH_done (by kernel_rfl) ?_ _
          clear hHeld hHeld1 hHeld2 hHeld3 hS S3 S4 S5
          go_wp2_with fail
          go_roundg (gk - 1)
          case measure => have := unhide hi; omega
          case rel =>
            refine ⟨i + 1, v5, by have := unhide hi; unfold Hid; omega, by go_num, ?_⟩
            have e : efm (l.take (i + 1)) = bs ++ [(k : Int)] ++ opF (kd k) a := by
              rw [unhide htk, efm_push, ← unhide hbs]
              simp [ifm]
            unfold Hid
            rw [e, unhide htk]
            refine ⟨unhide J5, ?_⟩
            have q := (unhide hJ).2
            unfold okL at q ⊢
            rw [List.all_append, q]
            simpa using unhide HOK
      · have hiL : i = L := by have := unhide hi; omega
        subst hiL
        have hT : l.take i = l := List.take_of_length_le (by rw [unhide hL]; exact Nat.le_refl _)
        obtain ⟨hJ1, hJ2⟩ := unhide hJ
        rw [hT] at hJ1 hJ2
        have HE : Hid (encE l = 0 ∧ encB l = efm l) := by
          have e : encE l = 0 := by unfold encE; rw [if_neg (by rw [unhide hL]; exact h2), hJ2]; rfl
          exact ⟨e, by unfold encB; rw [if_pos e]⟩
        have hlen : (efm l).length ≤ 140737488355328 := by
          have := efm_len l
          rw [unhide hL] at this
          omega
        have HD := hide (done_any p v (efm l) wr hJ1.1 hlen)
        have J1 := hide hJ1
        clear hT hJ1 hJ2 hJ hlen HII HC
        go_wp2_with fail
        refine (unhide HD).mono ?_
        rintro e w2 ⟨v2, rfl, ho, hb2⟩
        have HO := hide ho
        have B2 := hide hb2
        clear ho hb2
        go_wp2_with fail
        go_ret2
        have hs := (unhide J1).2.1
        refine ⟨v2, by rw [(unhide HE).1]; rfl, ?_, Bl.go hs hs.size (unhide B2)⟩
        rw [(unhide HE).2]
        exact own_low (unhide HO) hs.size
end Go.Proofs.YtlogmdldjmkkjaaGreatDoor
