/-
  ApartFrames: two lists of frames that lie apart.
-/
import Derived.Test.YtfcgpafjhifogaaApV
import Derived.Test.YtfcgpafjhifogaaKFr
namespace Go.Proofs.Ytfcgpafjhifogaa
open Go.RowKit
set_option linter.unusedVariables false
set_option linter.unusedSimpArgs false
def mkf (k : Nat) : Fmv := ⟨-1 - (k : Int), 0, .slice none 0 0⟩
def rep (k n : Nat) : List Fmv := List.replicate n (mkf k)
theorem rep_succ (k n : Nat) : rep k (n + 1) = rep k n ++ [mkf k] := List.replicate_succ'
theorem rep_length (k n : Nat) : (rep k n).length = n := by simp [rep]
/-- Rows of frames as they lie there. -/
structure AF (R : Nat) (w0 : World) (lb : Nat) (V : Nat → Value) (N : Nat → Nat) : Prop where
  cell : ∀ k, k < R → w0.cell? ⟨lb, k, none⟩ = some (V k)
  row : ∀ k, k < R → ∃ Q, Q.length = N k ∧ Ro w0 3 (V k) (N k) (flt enM Q)
  lbn : ∀ k b, k < R → (V k).ownBlock = some b → b ≠ lb
  ap : ∀ j j' b, j < R → j' < R → j ≠ j' → (V j).ownBlock = some b → (V j').ownBlock ≠ some b
  le : ∀ k, N k ≤ 1048576
section
variable {R : Nat} {w0 w : World} {lb : Nat} {V : Nat → Value} {N : Nat → Nat}
theorem AF.lt (c : AF R w0 lb V N) {k b : Nat} (hk : k < R) (e : (V k).ownBlock = some b) : b < w0.heap.size := by
  obtain ⟨Q, _, h⟩ := c.row k hk
  exact h.lt b e
theorem AF.lbl (c : AF R w0 lb V N) {k : Nat} (hk : k < R) : lb < w0.heap.size := World.block_lt_of_cell? _ _ (c.cell k hk)
theorem AF.cellw (c : AF R w0 lb V N) (f : Fr (SV R V) w0 w) {k : Nat} (hk : k < R) : w.cell? ⟨lb, k, none⟩ = some (V k) :=
  (f.cell (a := ⟨lb, k, none⟩) (c.lbl hk) (fun ⟨j, hj, e⟩ => c.lbn j lb hj e rfl)).trans (c.cell k hk)
/-- So many rows are marked, and so much of the next. -/
structure N1 (R : Nat) (w0 : World) (V : Nat → Value) (N : Nat → Nat) (k i : Nat) (w : World) : Prop where
  ex : ∃ Q : Nat → List Fmv, (∀ j, j < R → (Q j).length = N j ∧ Ro w 3 (V j) (N j) (flt enM (Q j))) ∧ (∀ j x, j < k → j < R → x < N j → ∃ sv, (Q j)[x]? = some ⟨(j : Int), (x : Int), sv⟩) ∧ ∀ x, x < i → ∃ sv, (Q k)[x]? = some ⟨(k : Int), (x : Int), sv⟩
  fr : Fr (SV R V) w0 w
theorem N1.start (c : AF R w0 lb V N) (hf : Fr (SV R V) w0 w) (hr : ∀ j, j < R → ∃ Q, Q.length = N j ∧ Ro w 3 (V j) (N j) (flt enM Q)) : N1 R w0 V N 0 0 w := by
  have hex : ∀ k, ∃ Q, k < R → Q.length = N k ∧ Ro w 3 (V k) (N k) (flt enM Q) := fun k => by
    by_cases hk : k < R
    · obtain ⟨Q, h⟩ := hr k hk
      exact ⟨Q, fun _ => h⟩
    · exact ⟨[], fun h => absurd h hk⟩
  obtain ⟨Q, hQ⟩ := Classical.axiomOfChoice hex
  exact ⟨⟨Q, hQ, fun j x hj => by omega, fun x hx => by omega⟩, hf⟩
theorem N1.next {k : Nat} (h : N1 R w0 V N k (N k) w) : N1 R w0 V N (k + 1) 0 w := by
  obtain ⟨Q, h1, h2, h3⟩ := h.ex
  refine ⟨⟨Q, h1, fun j x hj hjR hx => ?_, fun x hx => by omega⟩, h.fr⟩
  by_cases e : j = k
  · subst e; exact h3 x hx
  · exact h2 j x (by omega) hjR hx
theorem N1.shape {k i : Nat} (h : N1 R w0 V N k i w) {j : Nat} (hj : j < R) : ∃ a cap, V j = .slice a (N j) cap := by
  obtain ⟨Q, h1, _⟩ := h.ex
  obtain ⟨a, cap, e, _⟩ := (h1 j hj).2.shape
  exact ⟨a, cap, e⟩
theorem N1.step {k i : Nat} (c : AF R w0 lb V N) (h : N1 R w0 V N k i w) (hk : k < R) (hi : i < N k) : ∃ g off cap, V k = .slice (some ⟨g, off, none⟩) (N k) cap ∧ g < w.heap.size ∧ g ≠ lb ∧
    (∃ u, w.cell? ⟨g, off + i * 3, none⟩ = some u) ∧ (∃ u, w.cell? ⟨g, off + i * 3 + 1, none⟩ = some u) ∧ (∀ j, w.frozen? ⟨g, j, none⟩ = false) ∧
    N1 R w0 V N k (i + 1) ((w.setCell ⟨g, off + i * 3, none⟩ (.int .i64 (k : Int))).setCell ⟨g, off + i * 3 + 1, none⟩ (.int .i64 (i : Int))) := by
  obtain ⟨Q, h1, h2, h3⟩ := h.ex
  obtain ⟨g, off, cap, e, _, _, hg, hcc⟩ := (h1 k hk).2.full (by omega)
  have hR := (h1 k hk).2
  rw [e] at hR
  obtain ⟨x, hx⟩ : ∃ x, (Q k)[i]? = some x := ⟨_, List.getElem?_eq_getElem (by rw [(h1 k hk).1]; exact hi)⟩
  obtain ⟨p1, p2, ⟨u0, p3⟩, _⟩ := hR.setM (d := 0) (z := ⟨(k : Int), x.pc, x.sv⟩) (u := .int .i64 (k : Int)) (h1 k hk).1 hx (by omega) (fun d hd => by
    match d, hd with
    | 0, _ => rfl
    | 1, _ => rfl
    | 2, _ => rfl)
  rw [Nat.add_zero] at p1 p2 p3
  have hql : ((Q k).set i ⟨(k : Int), x.pc, x.sv⟩).length = N k := by rw [List.length_set]; exact (h1 k hk).1
  obtain ⟨q1, q2, _, _⟩ := p1.setM (m := i) (d := 1) (x := ⟨(k : Int), x.pc, x.sv⟩) (z := ⟨(k : Int), (i : Int), x.sv⟩) (u := .int .i64 (i : Int)) hql (by rw [List.getElem?_set_self (by rw [(h1 k hk).1]; exact hi)]) (by omega) (fun d hd => by
    match d, hd with
    | 0, _ => rfl
    | 1, _ => rfl
    | 2, _ => rfl)
  have p5 : ∃ u, w.cell? ⟨g, off + i * 3 + 1, none⟩ = some u := by
    have := hcc (i * 3 + 1) (by omega)
    rw [← Nat.add_assoc] at this
    rw [this, List.getElem?_eq_getElem (by rw [flt_length zM, (h1 k hk).1]; omega)]
    exact ⟨_, rfl⟩
  rw [List.set_set] at q1
  have fF : Fr (fun b => b = g) w ((w.setCell ⟨g, off + i * 3, none⟩ (.int .i64 (k : Int))).setCell ⟨g, off + i * 3 + 1, none⟩ (.int .i64 (i : Int))) := p2.trans (q2.mono (fun _ _ e => e))
  refine ⟨g, off, cap, e, hg, c.lbn k g hk (by rw [e]; rfl), ⟨u0, p3⟩, p5, fun j => hR.free rfl j, ⟨⟨fun j => if j = k then (Q k).set i ⟨(k : Int), (i : Int), x.sv⟩ else Q j, fun j hj => ?_, fun j y hj hjR hy => ?_, fun y hy => ?_⟩, h.fr.trans (fF.mono (fun b _ q => ⟨k, hk, by rw [e, q]; rfl⟩))⟩⟩
  · by_cases q : j = k
    · subst q
      simp only [if_pos]
      refine ⟨by rw [List.length_set]; exact (h1 j hk).1, ?_⟩
      rw [e]
      exact q1
    · simp only [if_neg q]
      exact ⟨(h1 j hj).1, (h1 j hj).2.fr fF (fun b hb (q2 : b = g) => c.ap j k b hj hk q hb (by rw [e, q2]; rfl))⟩
  · simp only [if_neg (show ¬ j = k by omega)]
    exact h2 j y hj hjR hy
  · simp only [if_pos]
    by_cases q : y = i
    · subst q
      exact ⟨_, List.getElem?_set_self (by rw [(h1 k hk).1]; exact hi)⟩
    · rw [List.getElem?_set_ne (fun e => q e.symm)]
      exact h3 y (by omega)
structure F1 (Q : Nat → List Fmv) (R : Nat) (w0 : World) (V : Nat → Value) (N : Nat → Nat) (k : Nat) (cur : Nat → Value) (gs : Value) (w : World) : Prop where
  ls : ∀ j, j < R → Ro w 3 (V j) (N j) (flt enM (Q j))
  cr : ∀ j, j < k → Ro w 3 (cur j) (N j + 64) (flt enM (Q j ++ rep j 64))
  rel : ∀ j, j < k → Rl w0 (V j) (N j) 64 (cur j)
  dis : ∀ j j' b, j < k → j' < k → j ≠ j' → (cur j).ownBlock = some b → (cur j').ownBlock ≠ some b
  gr : w.ownsRow w0.heap.size 39 1 gs k ((List.range k).map cur)
  gdis : ∀ j b, j < k → gs.ownBlock = some b → (cur j).ownBlock ≠ some b
  fr : Fr (SV R V) w0 w
structure F2 (Q : Nat → List Fmv) (R : Nat) (w0 : World) (V : Nat → Value) (N : Nat → Nat) (k i : Nat) (c : Value) (cur : Nat → Value) (gs : Value) (w : World) : Prop where
  g1 : F1 Q R w0 V N k cur gs w
  cc : Ro w 3 c (N k + i) (flt enM (Q k ++ rep k i))
  crel : Rl w0 (V k) (N k) i c
  cdis : ∀ j b, j < k → (cur j).ownBlock = some b → c.ownBlock ≠ some b
  cg : ∀ b, gs.ownBlock = some b → c.ownBlock ≠ some b
theorem F1.start {Q : Nat → List Fmv} (h1 : ∀ j, j < R → Ro w 3 (V j) (N j) (flt enM (Q j))) (hf : Fr (SV R V) w0 w) (cur : Nat → Value) : F1 Q R w0 V N 0 cur (.slice none 0 0) w :=
  ⟨h1, fun j hj => by omega, fun j hj => by omega, fun j j' b hj => by omega, World.ownsRow_nil _ _ _ _, fun j b hj => by omega, hf⟩
theorem F1.open {Q : Nat → List Fmv} {k : Nat} {cur : Nat → Value} {gs : Value} (c : AF R w0 lb V N) (h : F1 Q R w0 V N k cur gs w) (hk : k < R) : F2 Q R w0 V N k 0 (V k) cur gs w := by
  refine ⟨h, by simpa [rep] using h.ls k hk, .inl ⟨rfl, rfl⟩, fun j b hj e q => ?_, fun b e q => ?_⟩
  · rcases (h.rel j hj).own e with r | r
    · exact c.ap j k b (by omega) hk (by omega) r q
    · have := c.lt hk q; omega
  · have := (h.gr.lt b e).1
    have := c.lt hk q
    omega
theorem F2.step {Q : Nat → List Fmv} {k i : Nat} (hQ : ∀ j, j < R → (Q j).length = N j) {c0 v' : Value} {cur : Nat → Value} {gs : Value} {w' : World} {X : Obj} (c : AF R w0 lb V N) (h : F2 Q R w0 V N k i c0 cur gs w) (hk : k < R)
    (hr : Ro w' 3 v' (N k + i + 1) (flt enM (Q k ++ rep k i ++ [mkf k]))) (hg : (w.alloc X).grownBy w' c0.ownBlock)
    (hat : (∃ g off cap, c0 = .slice (some ⟨g, off, none⟩) (N k + i) cap ∧ v' = .slice (some ⟨g, off, none⟩) (N k + i + 1) cap) ∨ v'.ownBlock = some (w.alloc X).heap.size) (hold : Ro w' 3 c0 (N k + i) (flt enM (Q k ++ rep k i))) : F2 Q R w0 V N k (i + 1) v' cur gs w' := by
  have f : Fr (fun b => c0.ownBlock = some b) w w' := ((Fr.refl _ w).alloc X).grown hg (fun b e => .inr e)
  have hsz := h.g1.fr.size
  have hro : Ro w' 3 v' (N k + (i + 1)) (flt enM (Q k ++ rep k (i + 1))) := by
    rw [show N k + (i + 1) = (N k + i) + 1 by omega, rep_succ, ← List.append_assoc]
    exact hr
  have hX : (w.alloc X).heap.size = w.heap.size + 1 := by simp
  have own' : ∀ b, v'.ownBlock = some b → c0.ownBlock = some b ∨ w.heap.size < b := fun b e => by
    rcases hat with ⟨g, off, cap, e1, e2⟩ | e2
    · rw [e2] at e; rw [e1]; exact .inl e
    · rw [e2] at e; cases e; right; omega
  have hls : ∀ j, j < R → Ro w' 3 (V j) (N j) (flt enM (Q j)) := fun j hj => by
    by_cases q : j = k
    · subst q
      rcases h.crel with ⟨e0, e1⟩ | ⟨g, off, cap, e1, e2⟩ | ⟨b, e1, hb⟩
      · subst e0
        rw [← e1]
        simpa [rep] using hold
      · rw [e2] at hold
        have := hold.upto rfl (k := N j) (by omega)
        rw [flt_take zM, List.take_left' (hQ j hj)] at this
        rw [e1]
        exact this
      · exact Ro.fr (h.g1.ls j hj) f (fun b' hb' e => by
          rw [e1] at e
          cases e
          have := c.lt hj hb'
          omega)
    · exact Ro.fr (h.g1.ls j hj) f (fun b hb e => by
        rcases h.crel.own e with r | r
        · exact c.ap j k b hj hk q hb r
        · have := c.lt hj hb; omega)
  refine ⟨⟨hls, fun j hj => Ro.fr (h.g1.cr j hj) f (fun b hb e => h.cdis j b hj hb e), h.g1.rel, h.g1.dis, own_keepT h.g1.gr (fun b hb => f.block b (h.g1.gr.lt b hb).2 (fun e => h.cg b hb e)), h.g1.gdis, h.g1.fr.trans2 f (fun b hb e => ?_)⟩, hro, ?_, fun j b hj e q => ?_, fun b e q => ?_⟩
  · rcases h.crel.own e with r | r
    · exact ⟨k, hk, r⟩
    · omega
  · rcases hat with ⟨g, off, cap, e1, e2⟩ | e2
    · rcases h.crel with ⟨e0, e3⟩ | ⟨g', off', cap', e3, e4⟩ | ⟨b, e3, hb⟩
      · right; left
        subst e0
        exact ⟨g, off, cap, by rw [← e3, e1]; rfl, e2⟩
      · right; left
        rw [e4] at e1
        cases e1
        exact ⟨_, _, _, e3, e2⟩
      · right; right
        rw [e1] at e3
        exact ⟨b, by rw [e2]; exact e3, hb⟩
    · right; right
      exact ⟨_, e2, by omega⟩
  · rcases own' b q with r | r
    · exact h.cdis j b hj e r
    · have := (h.g1.cr j hj).lt b e; omega
  · rcases own' b q with r | r
    · exact h.cg b e r
    · have := (h.g1.gr.lt b e).2; omega
theorem F2.push {Q : Nat → List Fmv} {k : Nat} {c0 gs' : Value} {cur : Nat → Value} {gs : Value} {w' : World} {X : Obj} (c : AF R w0 lb V N) (h : F2 Q R w0 V N k 64 c0 cur gs w) (hk : k < R)
    (hown : w'.ownsRow w0.heap.size 39 1 gs' (k + 1) ((List.range k).map cur ++ [c0])) (hg : (w.alloc X).grownBy w' gs.ownBlock) (hat : gs'.ownBlock = gs.ownBlock ∨ gs'.ownBlock = some (w.heap.size + 1)) : F1 Q R w0 V N (k + 1) (updV cur k c0) gs' w' := by
  have f : Fr (fun b => gs.ownBlock = some b) w w' := ((Fr.refl _ w).alloc X).grown hg (fun b e => .inr e)
  have hsz := h.g1.fr.size
  have gsb : ∀ b, gs.ownBlock = some b → w0.heap.size ≤ b := fun b e => (h.g1.gr.lt b e).1
  have cu : ∀ j, j < k + 1 → j ≠ k → updV cur k c0 j = cur j ∧ j < k := fun j hj hn => ⟨updV_ne _ _ hn, by omega⟩
  refine ⟨fun j hj => Ro.fr (h.g1.ls j hj) f (fun b hb e => by have := c.lt hj hb; have := gsb b e; omega), fun j hj => ?_, fun j hj => ?_, fun j j' b hj hj' hn e q => ?_, ?_, fun j b hj e q => ?_, h.g1.fr.trans2 f (fun b hb e => by have := gsb b e; omega)⟩
  · by_cases q : j = k
    · subst q
      rw [updV_at]
      exact Ro.fr h.cc f (fun b hb e => h.cg b e hb)
    · obtain ⟨e, hjk⟩ := cu j hj q
      rw [e]
      exact Ro.fr (h.g1.cr j hjk) f (fun b hb e => h.g1.gdis j b hjk e hb)
  · by_cases q : j = k
    · subst q
      rw [updV_at]
      exact h.crel
    · obtain ⟨e, hjk⟩ := cu j hj q
      rw [e]
      exact h.g1.rel j hjk
  · by_cases q1 : j = k
    · subst q1
      rw [updV_at] at e
      obtain ⟨e2, hjk⟩ := cu j' hj' (by omega)
      rw [e2] at q
      exact h.cdis j' b hjk q e
    · obtain ⟨e2, hjk⟩ := cu j hj q1
      rw [e2] at e
      by_cases q2 : j' = k
      · subst q2
        rw [updV_at] at q
        exact h.cdis j b hjk e q
      · obtain ⟨e3, hjk'⟩ := cu j' hj' q2
        rw [e3] at q
        exact h.g1.dis j j' b hjk hjk' hn e q
  · rw [List.range_succ, List.map_append, updV_range]
    simpa [updV_at] using hown
  · have hc : ∀ b, (updV cur k c0 j).ownBlock = some b → b < w.heap.size ∧ gs.ownBlock ≠ some b := fun b e => by
      by_cases q1 : j = k
      · subst q1
        rw [updV_at] at e
        exact ⟨h.cc.lt b e, fun q => h.cg b q e⟩
      · obtain ⟨e2, hjk⟩ := cu j hj q1
        rw [e2] at e
        exact ⟨(h.g1.cr j hjk).lt b e, fun q => h.g1.gdis j b hjk q e⟩
    obtain ⟨z1, z2⟩ := hc b q
    rcases hat with r | r
    · exact z2 (r ▸ e)
    · rw [r] at e; cases e; omega
end
theorem Try.info39 : (Try.prog.info? 39).map (fun i => (i.zero, i.size, i.bytes)) = some (some (.slice none 0 0), 1, 24) := by kernel_rfl
theorem Try.info26b : (Try.prog.info? 26).map (fun i => (i.zero, i.size, i.bytes)) = some (some (.slice none 0 0), 1, 24) := by kernel_rfl
set_option maxRecDepth 100000 in
set_option maxHeartbeats 1600000 in
theorem apartV_nil (w : World) : Calls Try.prog 16 #[.slice none 0 0] w fun e w' => e = .returned (.bool true) ∧ w' = w := by
  go_enter Try.func16, Try.ntmps16
  go_wp2_with fail
  go_loopg [3] 0 (fun g t3 wr => t3 = .int .i64 0 ∧ wr = w)
  case atStart => exact ⟨rfl, rfl⟩
  case round =>
    obtain ⟨rfl, ew⟩ := hrel
    obtain rfl := ew.symm
    go_wp2_with fail
    go_loopg [5, 6] 0 (fun g t5 t6 wr => t5 = .slice none 0 0 ∧ t6 = .int .i64 0 ∧ wr = w)
    case atStart => exact ⟨rfl, rfl, rfl⟩
    case round =>
      obtain ⟨rfl, rfl, ew⟩ := hrel
      obtain rfl := ew.symm
      go_wp2_with fail
      go_loopg [9] 0 (fun g t9 wr => t9 = .int .i64 0 ∧ wr = w)
      case atStart => exact ⟨rfl, rfl⟩
      case round =>
        obtain ⟨rfl, ew⟩ := hrel
        obtain rfl := ew.symm
        go_wp2_with fail
        go_ret
        exact ⟨rfl, rfl⟩
set_option maxRecDepth 100000 in
/-- append of one frame, and what becomes of the old row. -/
theorem appMO {w : World} {ops : Array Oper} {rest : List Oper} {o : Oper} {a : Act} {Q : Exit → Act → World → Prop}
    (hg : o.guard = none) (s x : Operand) (hop : o.op = Op.call { callee := Callee.builtin Builtin.append, args := #[s, x], argTypes := #[39, 39] })
    (v : Value) (n : Nat) (l : List Fmv) (hs : a.eval s = v) (hr : Ro w 3 v n (flt enM l)) (ad : Addr) (c : Nat) (p : Fmv) (hx : a.eval x = .slice (some ad) 1 c) (hc : ∀ j u, (enM p)[j]? = some u → w.cell? (ad.add j) = some u)
    (h1 : p.sv.oneCell' = true) (hN : n ≤ 3000000000000)
    (hK : ∀ v' w', Ro w' 3 v' (n + 1) (flt enM l ++ enM p) → w.grownBy w' v.ownBlock → ((∃ g off cap, v = .slice (some ⟨g, off, none⟩) n cap ∧ v' = .slice (some ⟨g, off, none⟩) (n + 1) cap) ∨ v'.ownBlock = some w.heap.size) → Ro w' 3 v n (flt enM l) → wpList Try.prog ops Q rest (a.put o.dst v') w') :
    wpList Try.prog ops Q (o :: rest) a w := by
  obtain ⟨i0, hi0, hz0, hz1, hz2⟩ := info_parts infM
  exact wpList_appO0 hg s x 39 hop 30 i0 _ 3 40 Try.underlying39 hi0 hz0 hz1 hz2 rfl (by decide) v n (flt enM l) hs hr ad 1 c (enM p) hx rfl hc (by intro u hu; simp only [enM, List.mem_cons, List.not_mem_nil, or_false] at hu; rcases hu with rfl | rfl | rfl <;> first | assumption | rfl) (by omega) (by unfold maxLen; omega) (by omega) hK
/-- The slots of two rows of frames, one behind the other. -/
def ALs (xs : Nat → List Fmv) : List Value := (xs 0 ++ xs 1).map Fmv.sv
def ofs (N : Nat → Nat) (k : Nat) : Nat := if k = 0 then 0 else N 0
/-- What is asked of the frames that were handed out. -/
structure AG (S : Nat → Prop) (w0 : World) (lb : Nat) (V : Nat → Value) (N : Nat → Nat) (xs : Nat → List Fmv) (ls : Nat → List (Int × Int)) : Prop where
  cell : ∀ k, k < 2 → w0.cell? ⟨lb, k, none⟩ = some (V k)
  len : ∀ k, k < 2 → (xs k).length = N k
  row : ∀ k, k < 2 → Ro w0 3 (V k) (N k) (flt enM (xs k))
  sl : ∀ (j : Nat) (s : Value), (ALs xs)[j]? = some s → Ro w0 2 s (ls j).length (flt enI (ls j))
  sle : ∀ j, (ls j).length ≤ 1048576
  lbn : ∀ k b, k < 2 → (V k).ownBlock = some b → b ≠ lb
  vap : ∀ b, (V 0).ownBlock = some b → (V 1).ownBlock ≠ some b
  sap : ∀ (j j' : Nat) (s s' : Value) b, j ≠ j' → (ALs xs)[j]? = some s → (ALs xs)[j']? = some s' → s.ownBlock = some b → s'.ownBlock ≠ some b
  svn : ∀ (j : Nat) (s : Value) b, (ALs xs)[j]? = some s → s.ownBlock = some b → b ≠ lb ∧ ∀ k, k < 2 → (V k).ownBlock ≠ some b
  vb : ∀ k b, k < 2 → (V k).ownBlock = some b → S b
  sb : ∀ (j : Nat) (s : Value) b, (ALs xs)[j]? = some s → s.ownBlock = some b → S b
  le : ∀ k, N k ≤ 1048576
theorem AG.at {S : Nat → Prop} {w0 : World} {lb : Nat} {V : Nat → Value} {N : Nat → Nat} {xs : Nat → List Fmv} {ls : Nat → List (Int × Int)} (c : AG S w0 lb V N xs ls) {k i : Nat} {x : Fmv} (hk : k < 2) (hx : (xs k)[i]? = some x) : (ALs xs)[ofs N k + i]? = some x.sv := by
  unfold ALs ofs
  rw [List.getElem?_map]
  match k, hk with
  | 0, _ =>
    have hi := (List.getElem?_eq_some_iff.1 hx).1
    rw [if_pos rfl, Nat.zero_add, List.getElem?_append_left hi, hx]
    rfl
  | 1, _ =>
    rw [if_neg (by omega), List.getElem?_append_right (by rw [c.len 0 (by omega)]; omega), c.len 0 (by omega), Nat.add_sub_cancel_left, hx]
    rfl
theorem AG.alen {S : Nat → Prop} {w0 : World} {lb : Nat} {V : Nat → Value} {N : Nat → Nat} {xs : Nat → List Fmv} {ls : Nat → List (Int × Int)} (c : AG S w0 lb V N xs ls) : (ALs xs).length = N 0 + N 1 := by
  unfold ALs; rw [List.length_map, List.length_append, c.len 0 (by omega), c.len 1 (by omega)]
set_option maxRecDepth 100000 in
set_option maxHeartbeats 6400000 in
theorem apartF {S : Nat → Prop} {w0 : World} {lb : Nat} {V : Nat → Value} {N : Nat → Nat} {xs : Nat → List Fmv} {ls : Nat → List (Int × Int)} (c : AG S w0 lb V N xs ls) :
    Calls Try.prog 23 #[.slice (some ⟨lb, 0, none⟩) 2 2] w0 fun e w' => e = .returned (.bool true) ∧ Fr S w0 w' := by
  obtain ⟨i0, hi0, hz0, hz1, hz2⟩ := info_parts Try.info26b
  have HI := hide (And.intro hi0 (And.intro hz0 (And.intro hz1 hz2)))
  obtain ⟨i39, hj0, hj1, hj2, hj3⟩ := info_parts Try.info39
  have HI9 := hide (And.intro hj0 (And.intro hj1 (And.intro hj2 hj3)))
  have C := hide c
  have hlb : lb < w0.heap.size := World.block_lt_of_cell? _ _ (c.cell 0 (by omega))
  clear c hi0 hz0 hz1 hz2 hj0 hj1 hj2 hj3
  go_enter Try.func23, Try.ntmps23
  go_wp2_with fail
  go_loopg [3, 4] 2 (fun g t3 t4 wr => ∃ (k : Nat) (sv : Value), Hid (k + g = 2) ∧ t3 = sv ∧ t4 = .int .i64 (k : Int) ∧ Hid (wr.ownsRow w0.heap.size 26 1 sv (if k = 2 then N 0 + N 1 else ofs N k) ((ALs xs).take (if k = 2 then N 0 + N 1 else ofs N k)) ∧ Below w0.heap.size w0 wr))
  case atStart => exact ⟨0, _, rfl, rfl, rfl, by simpa [ofs] using World.ownsRow_nil _ _ _ _, Below.refl _ _⟩
  case round =>
    obtain ⟨k, sv, hk, e3, rfl, hG⟩ := hrel
    obtain ⟨sva, svc, esv⟩ := row_shp (unhide hG).1
    rw [esv] at e3
    subst e3
    subst esv
    by_cases hlt : k < 2
    · have hif : (if k = 2 then N 0 + N 1 else ofs N k) = ofs N k := if_neg (by omega)
      rw [hif] at hG ⊢
      obtain ⟨va, vc, hv, _⟩ := ((unhide C).row k hlt).shape
      have HV := hide hv
      have k0 : (0 : Int) ≤ (k : Int) := by omega
      have k1 : (k : Int) < 2 := by omega
      obtain ⟨n, hn⟩ : ∃ n, Hid (n = N k) := ⟨_, hide rfl⟩
      have hle : n ≤ 1048576 := by rw [unhide hn]; exact (unhide C).le k
      obtain ⟨G0, hG0⟩ : ∃ G0 : Nat, Hid (G0 = gk) := ⟨_, hide rfl⟩
      obtain ⟨o0, ho0⟩ : ∃ o, Hid (ofs N k = o) := ⟨_, hide rfl⟩
      have hol : o0 ≤ 1048576 := by rw [← unhide ho0]; unfold ofs; split; omega; exact (unhide C).le 0
      rw [unhide ho0] at hG ⊢
      clear hv hif
      go_wp2_with fail
      go_loopg [3, 5] n (fun g t3 t5 wr => ∃ (i : Nat) (sv : Value), Hid (i + g = n) ∧ t3 = sv ∧ t5 = .int .i64 (i : Int) ∧ Hid (wr.ownsRow w0.heap.size 26 1 sv (o0 + i) ((ALs xs).take (o0 + i)) ∧ Below w0.heap.size w0 wr))
      case atStart => exact ⟨0, _, by unfold Hid; omega, rfl, rfl, unhide hG⟩
      case round =>
        clear hG
        obtain ⟨i, sv, hi, e3, rfl, hG⟩ := hrel
        obtain ⟨sva, svc, esv⟩ := row_shp (unhide hG).1
        rw [esv] at e3
        subst e3
        subst esv
        have cl := ((unhide hG).2.cell (p := ⟨lb, k, none⟩) hlb).trans ((unhide C).cell k hlt)
        rw [unhide HV, ← unhide hn] at cl
        have lbl : lb < wr.heap.size := World.block_lt_of_cell? _ _ cl
        by_cases hi2 : i < n
        · obtain ⟨x, hx⟩ : ∃ x, (xs k)[i]? = some x := ⟨_, List.getElem?_eq_getElem (by rw [(unhide C).len k hlt, ← unhide hn]; exact hi2)⟩
          obtain ⟨g, off, cp, eg, _, _, lg, hcs⟩ := Rx.elem zM (by have := Rx.of_ro ((unhide C).row k hlt); rw [← (unhide C).len k hlt] at this; exact this) hx
          rw [unhide HV, (unhide C).len k hlt, ← unhide hn] at eg
          cases eg
          have hal := (unhide C).at hlt hx
          rw [unhide ho0] at hal
          obtain ⟨xa, xc, ex, _⟩ := ((unhide C).sl _ _ hal).shape
          obtain ⟨xl, hxl⟩ : ∃ n, Hid ((ls (o0 + i)).length = n) := ⟨_, hide rfl⟩
          have k2 := ((unhide hG).2.cell (p := ⟨g, off + i * 3 + 2, none⟩) lg).trans (hcs 2 _ rfl)
          rw [ex, unhide hxl] at k2
          have lg2 := Nat.lt_of_lt_of_le lg (unhide hG).2.size
          have i0' : (0 : Int) ≤ (i : Int) := by omega
          have i1' : (i : Int) < (n : Int) := by omega
          have HO := hide (unhide hG).1
          have hi0 := (unhide HI).1
          have hz0 := (unhide HI).2.1
          have hz1 := (unhide HI).2.2.1
          have hz2 := (unhide HI).2.2.2
          have HSZ : Hid (w0.heap.size ≤ wr.heap.size) := (unhide hG).2.size
          have HAL : Hid ((ALs xs)[o0 + i]? = some (.slice xa xl xc)) := by rw [hal, ex, unhide hxl]; exact hide rfl
          clear hcs hal ex hx
          go_wp2_with (first | (at_builtin; refine wpList_append_own_at _ rfl _ _ 37 rfl w0.heap.size 26 i0 (.slice none 0 0) 1 24 Try.underlying37 hi0 hz0 hz1 hz2 rfl (by decide) _ _ _ rfl ((unhide HO).alloc _) ⟨wr.heap.size, 0, none⟩ 1 1 [.slice xa xl xc] rfl rfl (cell_one_new _ _ _) (by simp [Value.oneCell']) (by unfold maxLen; omega) (by omega) (by have := unhide HSZ; simp; omega) ?_))
          intro gs' w2 hown' hgrow hnil hat
          have HN : Hid (w2.ownsRow w0.heap.size 26 1 gs' (o0 + (i + 1)) ((ALs xs).take (o0 + (i + 1))) ∧ Below w0.heap.size w0 w2) := by
            refine ⟨?_, (unhide hG).2.trans (((((Fr.refl (fun k => (Value.slice sva (o0 + i) svc).ownBlock = some k) wr).alloc _).grown hgrow (fun b e => .inr e))).below (unhide HSZ) (fun b hb e => by have := ((unhide HO).lt b e).1; omega))⟩
            rw [show o0 + (i + 1) = o0 + i + 1 by omega, take_push (unhide HAL)]
            exact hown'
          clear hown' hgrow hnil hat hi0 hz0 hz1 hz2
          go_wp2_with fail
          go_roundg (gk - 1)
          case measure => have := unhide hi; omega
          case rel => exact ⟨i + 1, gs', by have := unhide hi; unfold Hid; omega, rfl, by go_num, HN⟩
        · have hin : n = i := by have := unhide hi; omega
          subst hin
          have HN : Hid (wr.ownsRow w0.heap.size 26 1 (.slice sva (o0 + n) svc) (if k + 1 = 2 then N 0 + N 1 else ofs N (k + 1)) ((ALs xs).take (if k + 1 = 2 then N 0 + N 1 else ofs N (k + 1))) ∧ Below w0.heap.size w0 wr) := by
            have e : (if k + 1 = 2 then N 0 + N 1 else ofs N (k + 1)) = o0 + n := by
              rw [← unhide ho0, unhide hn]
              unfold ofs
              match k, hlt with
              | 0, _ => simp
              | 1, _ => simp
            rw [e]
            exact unhide hG
          go_wp2_with fail
          go_roundg (G0 - 1)
          case measure => have h1 := unhide hG0; have h2 := unhide hk; omega
          case rel => exact ⟨k + 1, _, by have h1 := unhide hG0; have h2 := unhide hk; unfold Hid; omega, rfl, by go_num, HN⟩
    · have hk2 : 2 = k := by have := unhide hk; omega
      subst hk2
      rw [if_pos rfl] at hG
      simp only [if_pos]
      obtain ⟨R, hR⟩ : ∃ R, Hid (N 0 + N 1 = R) := ⟨_, hide rfl⟩
      rw [unhide hR] at hG ⊢
      have hR1 : R ≤ 3000000 := by have h1 := unhide hR; have h2 := (unhide C).le 0; have h3 := (unhide C).le 1; omega
      have HC16 : Hid (Calls Try.prog 16 #[.slice sva R svc] wr fun e w' => e = .returned (.bool true) ∧ Fr (SV R (fun j => (ALs xs).getD j (.slice none 0 0))) wr w') := by
        have hown := (unhide hG).1
        have hal : (ALs xs).length = R := by rw [(unhide C).alen]; exact unhide hR
        have hget : ∀ j, j < R → (ALs xs)[j]? = some ((ALs xs).getD j (.slice none 0 0)) := fun j hj => by rw [List.getD_eq_getElem?_getD, List.getElem?_eq_getElem (by omega)]; rfl
        rw [List.take_of_length_le (by omega)] at hown
        rcases hown.2 with ⟨e1, e2⟩ | ⟨g, cp, cur, e1, hbase, _⟩
        · cases e1
          exact (apartV_nil wr).mono (fun e w' ⟨h1, h2⟩ => ⟨h1, by rw [h2]; exact Fr.refl _ _⟩)
        · cases e1
          refine apartV R wr g 0 _ _ (fun j => (ls j).length) ⟨fun k hk => ?_, fun k hk => ⟨ls k, rfl, ?_⟩, fun k b hk e => ?_, fun j j' b hj hj' hn e q => ?_, (unhide C).sle, hR1⟩
          · have hc := hown.cells (g := g) rfl k _ (hget k hk)
            rw [addr_add0] at hc
            rw [Nat.zero_add]
            exact hc
          · exact ((unhide C).sl k _ (hget k hk)).fr (Fr.of_below (S := fun _ => False) (unhide hG).2) (fun _ _ e => e)
          · have := ((unhide C).sl k _ (hget k hk)).lt b e
            omega
          · exact (unhide C).sap j j' _ _ b hn (hget j hj) (hget j' hj') e q
      obtain ⟨W1, hW1⟩ : ∃ W, W = wr := ⟨_, rfl⟩
      subst hW1
      have HB1 := hide (unhide hG).2
      have HAL : Hid ((ALs xs).length = R) := by unfold Hid; rw [(unhide C).alen]; exact unhide hR
      clear hG
      go_wp2_with fail
      refine (unhide HC16).mono ?_
      rintro e w2 ⟨rfl, hf2⟩
      have hget : ∀ j, j < R → (ALs xs)[j]? = some ((ALs xs).getD j (.slice none 0 0)) := fun j hj => by rw [List.getD_eq_getElem?_getD, List.getElem?_eq_getElem (by rw [unhide HAL]; exact hj)]; rfl
      have hsv : ∀ b, SV R (fun j => (ALs xs).getD j (.slice none 0 0)) b → ∃ (j : Nat) (s : Value), (ALs xs)[j]? = some s ∧ s.ownBlock = some b := fun b ⟨j, hj, e⟩ => ⟨j, (ALs xs).getD j (.slice none 0 0), hget j hj, e⟩
      have hB2 : Fr S w0 w2 := (Fr.of_below (S := S) (unhide HB1)).trans2 hf2 (fun b hb e => by
        obtain ⟨j, s, h1, h2⟩ := hsv b e
        exact (unhide C).sb j s b h1 h2)
      have hAF : AF 2 w2 lb V N := by
        refine ⟨fun k hk => ?_, fun k hk => ⟨xs k, (unhide C).len k hk, ?_⟩, (unhide C).lbn, fun j j' b hj hj' hn e => ?_, (unhide C).le⟩
        · refine (hf2.cell (a := ⟨lb, k, none⟩) (Nat.lt_of_lt_of_le hlb (unhide HB1).size) (fun e => ?_)).trans (((unhide HB1).cell (p := ⟨lb, k, none⟩) hlb).trans ((unhide C).cell k hk))
          obtain ⟨j, s, h1, h2⟩ := hsv _ e
          exact ((unhide C).svn j s _ h1 h2).1 rfl
        · refine (((unhide C).row k hk).fr (Fr.of_below (S := fun _ => False) (unhide HB1)) (fun _ _ e => e)).fr hf2 (fun b hb e => ?_)
          obtain ⟨j, s, h1, h2⟩ := hsv _ e
          exact ((unhide C).svn j s _ h1 h2).2 k hk hb
        · match j, j', hj, hj' with
          | 0, 0, _, _ => exact absurd rfl hn
          | 0, 1, _, _ => exact (unhide C).vap b e
          | 1, 0, _, _ => exact fun q => (unhide C).vap b q e
          | 1, 1, _, _ => exact absurd rfl hn
      have A := hide hAF
      have S0 := hide (N1.start hAF (Fr.refl _ _) (fun j hj => hAF.row j hj))
      have HVB : Hid (∀ b, SV 2 V b → S b) := fun b ⟨j, hj, e⟩ => (unhide C).vb j b hj e
      have HB2 := hide hB2
      clear hf2 hsv hget hB2 hAF HC16
      as_aux_lemma =>
        go_wp2_with fail
        go_loopg [6] 2 (fun g t6 wq => ∃ (k : Nat), Hid (k + g = 2) ∧ t6 = .int .i64 (k : Int) ∧ Hid (N1 2 w2 V N k 0 wq))
        case atStart => exact ⟨0, rfl, rfl, unhide S0⟩
        case round =>
          clear S0
          obtain ⟨k, hk, rfl, hM⟩ := hrel
          by_cases hlt : k < 2
          · obtain ⟨va, vc, hv⟩ := (unhide hM).shape hlt
            have HV := hide hv
            have k0 : (0 : Int) ≤ (k : Int) := by omega
            have k1 : (k : Int) < 2 := by omega
            obtain ⟨n, hn⟩ : ∃ n, Hid (n = N k) := ⟨_, hide rfl⟩
            have hle : n ≤ 1048576 := by rw [unhide hn]; exact (unhide C).le k
            obtain ⟨G0, hG0⟩ : ∃ G0 : Nat, Hid (G0 = gk) := ⟨_, hide rfl⟩
            clear hv
            go_wp2_with fail
            go_loopg [7] n (fun g t7 wq => ∃ (i : Nat), Hid (i + g = n) ∧ t7 = .int .i64 (i : Int) ∧ Hid (N1 2 w2 V N k i wq))
            case atStart => exact ⟨0, by unfold Hid; omega, rfl, unhide hM⟩
            case round =>
              clear hM
              obtain ⟨i, hi, rfl, hM⟩ := hrel
              have cl := (unhide A).cellw (unhide hM).fr hlt
              rw [unhide HV, ← unhide hn] at cl
              have lbl : lb < wr.heap.size := World.block_lt_of_cell? _ _ cl
              by_cases hi2 : i < n
              · obtain ⟨g, off, cap, e, hg, hgl, ⟨u0, c0⟩, ⟨u1, c1⟩, cf, hN⟩ := (unhide hM).step (unhide A) hlt (by rw [← unhide hn]; exact hi2)
                rw [unhide HV] at e
                cases e
                have cf0 := cf (off + i * 3)
                have cf1 := cf (off + i * 3 + 1)
                have HN := hide hN
                have i1 : (0 : Int) ≤ (i : Int) := by omega
                have i2 : (i : Int) < (n : Int) := by omega
                have cl2 : ∀ u, (wr.setCell ⟨g, off + i * 3, none⟩ u).cell? ⟨lb, k, none⟩ = some (.slice (some ⟨g, off, none⟩) n vc) := fun u => (World.cell?_setCell_far _ _ _ _ hgl).trans cl
                have hgl2 : ¬ (g = lb) := hgl
                clear hN cf
                go_wp2_with fail
                go_roundg (gk - 1)
                case measure => have := unhide hi; omega
                case rel => exact ⟨i + 1, by have := unhide hi; unfold Hid; omega, by go_num, HN⟩
              · have hin : n = i := by have := unhide hi; omega
                subst hin
                have HN : Hid (N1 2 w2 V N (k + 1) 0 wr) := by have q := unhide hM; rw [unhide hn] at q; exact q.next
                go_wp2_with fail
                go_roundg (G0 - 1)
                case measure => have h1 := unhide hG0; have h2 := unhide hk; omega
                case rel => exact ⟨k + 1, by have h1 := unhide hG0; have h2 := unhide hk; unfold Hid; omega, by go_num, HN⟩
          · have hk2 : 2 = k := by have := unhide hk; omega
            subst hk2
            obtain ⟨Q, hQ1, hQ2, _⟩ := (unhide hM).ex
            have HQL : Hid (∀ j, j < 2 → (Q j).length = N j) := fun j hj => (hQ1 j hj).1
            have HQ2 := hide hQ2
            have G3 := hide (F1.start (fun j hj => (hQ1 j hj).2) (unhide hM).fr (fun _ => .slice none 0 0))
            clear hM hlt hQ1 hQ2
            as_aux_lemma =>
              go_wp2_with fail
              go_loopg [8, 9] 2 (fun g t8 t9 wq => ∃ (k : Nat) (cur : Nat → Value) (gs : Value), Hid (k + g = 2) ∧ t8 = gs ∧ t9 = .int .i64 (k : Int) ∧ Hid (F1 Q 2 w2 V N k cur gs wq))
              case atStart => exact ⟨0, _, _, rfl, rfl, rfl, unhide G3⟩
              case round =>
                clear G3
                obtain ⟨k, cur, gs, hk, hgs, rfl, hG⟩ := hrel
                by_cases hlt : k < 2
                · obtain ⟨ga, gc, eg⟩ := row_shp (unhide hG).gr
                  rw [eg] at hgs
                  subst hgs
                  subst eg
                  have hO := hide ((unhide hG).open (unhide A) hlt)
                  obtain ⟨va, vc, hv, hv1, hv2⟩ := ((unhide hG).ls k hlt).shape
                  have HV := hide hv
                  have k0 : (0 : Int) ≤ (k : Int) := by omega
                  have k1 : (k : Int) < 2 := by omega
                  obtain ⟨n, hn⟩ : ∃ n, Hid (n = N k) := ⟨_, hide rfl⟩
                  have hle : n ≤ 1048576 := by rw [unhide hn]; exact (unhide C).le k
                  obtain ⟨G0, hG0⟩ : ∃ G0 : Nat, Hid (G0 = gk) := ⟨_, hide rfl⟩
                  have ewk : IntKind.i64.wrap (-1 - (k : Int)) = -1 - (k : Int) := by rw [IntKind.wrap_i64]; omega
                  have cl := (unhide A).cellw (unhide hG).fr hlt
                  rw [unhide HV, ← unhide hn] at cl
                  have lbl : lb < wr.heap.size := World.block_lt_of_cell? _ _ cl
                  clear hv hv1 hv2
                  go_wp2_with fail
                  go_loopg [10, 11] 64 (fun g t10 t11 wq => ∃ (i : Nat) (cv : Value), Hid (i + g = 64) ∧ t10 = cv ∧ t11 = .int .i64 (i : Int) ∧ Hid (F2 Q 2 w2 V N k i cv cur (.slice ga k gc) wq))
                  case atStart => exact ⟨0, V k, by unfold Hid; omega, by rw [unhide HV, ← unhide hn], rfl, unhide hO⟩
                  case round =>
                    clear hO cl lbl
                    obtain ⟨i, cv, hi, hcv, rfl, hGi⟩ := hrel
                    obtain ⟨ca, cc, ec, ec1, ec2⟩ := (unhide hGi).cc.shape
                    rw [← unhide hn] at ec ec1
                    rw [ec] at hcv
                    subst hcv
                    subst ec
                    by_cases hi2 : i < 64
                    · have HRo : Hid (Ro (wr.alloc (.cells #[.int .i64 (-1 - (k : Int)), .int .i64 0, .slice none 0 0] 30)) 3 (.slice ca (n + i) cc) (n + i) (flt enM (Q k ++ rep k i))) := by
                        have q := (unhide hGi).cc
                        rw [← unhide hn] at q
                        exact Ro.fr (S := fun _ => False) q ((Fr.refl _ wr).alloc _) (fun _ _ e => e)
                      have j1 : (i : Int) < 64 := by omega
                      go_wp2_with (first | (at_builtin; refine appMO rfl _ _ rfl _ (n + i) (Q k ++ rep k i) rfl (unhide HRo) ⟨wr.heap.size, 0, none⟩ 1 ⟨-1 - (k : Int), 0, .slice none 0 0⟩ rfl (new_cells _ _ _) rfl (by omega) ?_))
                      intro v' w' hr hg hat hold
                      have HN : Hid (F2 Q 2 w2 V N k (i + 1) v' cur (.slice ga k gc) w') := by
                        have q := (unhide hGi).step (w' := w') (v' := v') (X := .cells #[.int .i64 (-1 - (k : Int)), .int .i64 0, .slice none 0 0] 30) (unhide HQL) (unhide A) hlt
                        rw [← unhide hn] at q
                        refine q ?_ hg ?_ hold
                        · rw [flt_append, flt_one]; exact hr
                        · rcases hat with ⟨g', o', c', ⟨e1, e2⟩, e3⟩ | r
                          · exact .inl ⟨g', o', c', by rw [e1, e2], e3⟩
                          · exact .inr (by simpa using r)
                      clear hr hg hat hold
                      go_wp2_with fail
                      go_roundg (gk - 1)
                      case measure => have := unhide hi; omega
                      case rel => exact ⟨i + 1, v', by have := unhide hi; unfold Hid; omega, rfl, by go_num, HN⟩
                    · have hi64 : 64 = i := by have := unhide hi; omega
                      subst hi64
                      have HO := hide (unhide hGi).g1.gr
                      have hi0 := (unhide HI9).1
                      have hz0 := (unhide HI9).2.1
                      have hz1 := (unhide HI9).2.2.1
                      have hz2 := (unhide HI9).2.2.2
                      have HSZ : Hid (w2.heap.size ≤ wr.heap.size) := (unhide hGi).g1.fr.size
                      go_wp2_with (first | (at_builtin; refine wpList_append_own_at _ rfl _ _ 47 rfl w2.heap.size 39 i39 (.slice none 0 0) 1 24 Try.underlying47 hi0 hz0 hz1 hz2 rfl (by decide) _ _ _ rfl ((unhide HO).alloc _) ⟨wr.heap.size, 0, none⟩ 1 1 [.slice ca (n + 64) cc] rfl rfl (cell_one_new _ _ _) (by simp [Value.oneCell']) (by unfold maxLen; omega) (by omega) (by have := unhide HSZ; simp; omega) ?_))
                      intro gs' w3 hown' hgrow hnil hat
                      have HN := hide ((unhide hGi).push (unhide A) hlt (X := _) hown' hgrow (by simpa using hat))
                      clear hown' hgrow hnil hat hi0 hz0 hz1 hz2
                      go_wp2_with fail
                      go_roundg (G0 - 1)
                      case measure => have h1 := unhide hG0; have h2 := unhide hk; omega
                      case rel => exact ⟨k + 1, _, gs', by have h1 := unhide hG0; have h2 := unhide hk; unfold Hid; omega, rfl, by go_num, unhide HN⟩
                · have hk2 : 2 = k := by have := unhide hk; omega
                  subst hk2
                  obtain ⟨ga, gc, eg⟩ := row_shp (unhide hG).gr
                  rw [eg] at hgs
                  subst hgs
                  subst eg
                  obtain ⟨Y, hY⟩ : ∃ Y, Y = wr := ⟨_, rfl⟩
                  subst hY
                  have HF : Hid (Fr (SV 2 V) w2 Y) := (unhide hG).fr
                  clear hlt
                  as_aux_lemma =>
                    go_wp2_with fail
                    go_loopg [12] 2 (fun g t12 wq => ∃ (k : Nat), Hid (k + g = 2) ∧ t12 = .int .i64 (k : Int) ∧ Hid (wq = Y))
                    case atStart => exact ⟨0, rfl, rfl, rfl⟩
                    case round =>
                      obtain ⟨k, hk, rfl, hB⟩ := hrel
                      obtain rfl := (unhide hB).symm
                      by_cases hlt : k < 2
                      · obtain ⟨n, hn⟩ : ∃ n, Hid (n = N k) := ⟨_, hide rfl⟩
                        have hle : n ≤ 1048576 := by rw [unhide hn]; exact (unhide C).le k
                        have k0 : (0 : Int) ≤ (k : Int) := by omega
                        have k1 : (k : Int) < 2 := by omega
                        have ewk : IntKind.i64.wrap (-1 - (k : Int)) = -1 - (k : Int) := by rw [IntKind.wrap_i64]; omega
                        obtain ⟨G0, hG0⟩ : ∃ G0 : Nat, Hid (G0 = gk) := ⟨_, hide rfl⟩
                        have hcr := (unhide hG).cr k hlt
                        rw [← unhide hn] at hcr
                        obtain ⟨g, off, cap, eg, _, _, hgl, hgc⟩ := hcr.full (by omega)
                        have hls := (unhide hG).ls k hlt
                        obtain ⟨va, vc, ev, _, _⟩ := hls.shape
                        have hgo := (unhide hG).gr
                        have hgb : ∃ gb, ga = some ⟨gb, 0, none⟩ ∧ gb < Y.heap.size ∧ Y.cell? ⟨gb, k, none⟩ = some (cur k) := by
                          rcases hgo.2 with ⟨_, q⟩ | ⟨gb, cp, cu, e, _⟩
                          · omega
                          · cases e
                            have hc := hgo.cells (g := gb) rfl k (cur k) (by simp [hlt])
                            rw [addr_add0] at hc
                            exact ⟨gb, rfl, (hgo.lt gb rfl).2, hc⟩
                        obtain ⟨gb, rfl, hgbl, hgbc⟩ := hgb
                        rw [eg] at hgbc
                        have hlc := (unhide A).cellw (unhide HF) hlt
                        rw [ev, ← unhide hn] at hlc
                        have lbl : lb < Y.heap.size := World.block_lt_of_cell? _ _ hlc
                        have HLS : Hid (∀ i, i < n → ∃ b o, va = some ⟨b, o, none⟩ ∧ b < Y.heap.size ∧ Y.cell? ⟨b, o + i * 3, none⟩ = some (.int .i64 (k : Int)) ∧ Y.cell? ⟨b, o + i * 3 + 1, none⟩ = some (.int .i64 (i : Int))) := fun i hi => by
                          obtain ⟨sv, hsv⟩ := unhide HQ2 k i (by omega) hlt (by rw [← unhide hn]; exact hi)
                          obtain ⟨b, o, cp, e, _, _, hb, hcs⟩ := Rx.elem zM (by have := Rx.of_ro hls; rw [← unhide HQL k hlt] at this; exact this) hsv
                          rw [ev, unhide HQL k hlt] at e
                          cases e
                          exact ⟨b, o, rfl, hb, hcs 0 _ rfl, hcs 1 _ rfl⟩
                        have HGS : Hid (∀ i, n ≤ i → i < n + 64 → Y.cell? ⟨g, off + i * 3, none⟩ = some (.int .i64 (-1 - (k : Int)))) := fun i h1 h2 => by
                          have hq : (Q k ++ rep k 64)[i]? = some (mkf k) := by
                            rw [List.getElem?_append_right (by rw [unhide HQL k hlt, ← unhide hn]; exact h1), unhide HQL k hlt, ← unhide hn]
                            unfold rep
                            rw [List.getElem?_replicate, if_pos (by omega)]
                          obtain ⟨b, o, cp, e, _, _, hb, hcs⟩ := Rx.elem zM (by have := Rx.of_ro hcr; rw [show n + 64 = (Q k ++ rep k 64).length by rw [List.length_append, rep_length, unhide HQL k hlt, ← unhide hn]] at this; exact this) hq
                          rw [eg, show (Q k ++ rep k 64).length = n + 64 by rw [List.length_append, rep_length, unhide HQL k hlt, ← unhide hn]] at e
                          cases e
                          exact hcs 0 _ rfl
                        clear hcr hls hgo hgc ev eg
                        go_wp2_with fail
                        go_loopg [13] 64 (fun gg t13 wq => ∃ (i : Nat), Hid (i + gg = 64) ∧ t13 = .int .i64 ((n : Int) + (i : Int)) ∧ Hid (wq = Y))
                        case atStart => exact ⟨0, by unfold Hid; omega, by simp, rfl⟩
                        case round =>
                          obtain ⟨i, hi, rfl, hB⟩ := hrel
                          obtain rfl := (unhide hB).symm
                          by_cases hi2 : i < 64
                          · have c0 := unhide HGS (n + i) (by omega) (by omega)
                            have i0 : (0 : Int) ≤ (n : Int) + (i : Int) := by omega
                            have i1 : (n : Int) + (i : Int) < (n : Int) + 64 := by omega
                            have t1 : ((n : Int) + (i : Int)).toNat = n + i := by omega
                            have ew : IntKind.i64.wrap ((n : Int) + (i : Int) + 1) = (n : Int) + ((i + 1 : Nat) : Int) := by rw [show (n : Int) + (i : Int) + 1 = (n : Int) + ((i + 1 : Nat) : Int) by omega]; go_arith
                            go_wp2_with fail
                            go_roundg (gk - 1)
                            case measure => have := unhide hi; omega
                            case rel => exact ⟨i + 1, by have := unhide hi; unfold Hid; omega, by go_num, rfl⟩
                          · have hin : 64 = i := by have := unhide hi; omega
                            subst hin
                            have t1 : decide ((n : Int) + ((64 : Nat) : Int) < (n : Int) + 64) = false := decide_eq_false (by omega)
                            go_wp2_with fail
                            go_loopg [14] n (fun gg t14 wq => ∃ (i : Nat), Hid (i + gg = n) ∧ t14 = .int .i64 (i : Int) ∧ Hid (wq = Y))
                            case atStart => exact ⟨0, by unfold Hid; omega, rfl, rfl⟩
                            case round =>
                              obtain ⟨i, hi3, rfl, hB⟩ := hrel
                              obtain rfl := (unhide hB).symm
                              by_cases hi4 : i < n
                              · obtain ⟨b, o, rfl, hb, c0, c1⟩ := unhide HLS i hi4
                                have i0 : (0 : Int) ≤ (i : Int) := by omega
                                have i1 : (i : Int) < (n : Int) := by omega
                                have hkk : ((k : Int) != (k : Int)) = false := by simp
                                have hii : ((i : Int) != (i : Int)) = false := by simp
                                go_wp2_with fail
                                go_roundg (gk - 1)
                                case measure => have := unhide hi3; omega
                                case rel => exact ⟨i + 1, by have := unhide hi3; unfold Hid; omega, by go_num, rfl⟩
                              · have hin : n = i := by have := unhide hi3; omega
                                subst hin
                                go_wp2_with fail
                                go_roundg (G0 - 1)
                                case measure => have h1 := unhide hG0; have h2 := unhide hk; omega
                                case rel => exact ⟨k + 1, by have h1 := unhide hG0; have h2 := unhide hk; unfold Hid; omega, by go_num, rfl⟩
                      · have hk2 : 2 = k := by have := unhide hk; omega
                        subst hk2
                        go_wp2_with fail
                        go_ret
                        exact ⟨rfl, (unhide HB2).trans2 (unhide HF) (fun b hb e => unhide HVB b e)⟩
end Go.Proofs.Ytfcgpafjhifogaa
