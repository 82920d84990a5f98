/-
  The document's book: a value with its new number.
-/
import Derived.Test.YtadgiccfjppnfaaBo
namespace Go.Proofs.Ytadgiccfjppnfaa
open Go.RowKit
set_option linter.unusedVariables false
set_option linter.unusedSimpArgs false
theorem infN : (Try.prog.info? 3).map (fun i => (i.zero, i.size, i.bytes)) = some (some (.int .i64 0), 1, 8) := by kernel_rfl
theorem appN {w : World} {ops : Array Oper} {rest : List Oper} {o : Oper} {a : Act} {Q : Exit → Act → World → Prop}
    (hg : o.guard = none) (s x : Operand) (hop : o.op = Op.call { callee := Callee.builtin Builtin.append, args := #[s, x], argTypes := #[64, 64] })
    (v : Value) (n : Nat) (l : List Nat) (hs : a.eval s = v) (hr : Ro w 1 v n (flt enN l)) (ad : Addr) (c : Nat) (p : Nat) (hx : a.eval x = .slice (some ad) 1 c) (hc : ∀ j u, (enN p)[j]? = some u → w.cell? (ad.add j) = some u)
    (hN : n ≤ 3000000000000)
    (hK : ∀ v' w', Ro w' 1 v' (n + 1) (flt enN l ++ enN p) → w.grownBy w' v.ownBlock → (v'.ownBlock = v.ownBlock ∨ v'.ownBlock = some w.heap.size) → wpList Try.prog ops Q rest (a.put o.dst v') w') :
    wpList Try.prog ops Q (o :: rest) a w := by
  obtain ⟨i0, hi0, hz0, hz1, hz2⟩ := info_parts infN
  exact wpList_app hg s x 64 hop 3 i0 _ 1 8 Try.underlying64 hi0 hz0 hz1 hz2 rfl (by decide) v n (flt enN l) hs hr ad 1 c (enN p) hx rfl hc (by simp [enN, Value.oneCell']) (by omega) (by unfold maxLen; omega) (by omega) hK
set_option maxRecDepth 100000 in
theorem namesT_any (w : World) (m : Nat) (n : Int) : Calls Try.prog 77 #[.int .i64 m, .int .i64 n] w fun e w' => e = .returned (.bool (decide (0 ≤ n ∧ n < (m : Int)))) ∧ w' = w := by
  go_enter Try.func77, Try.ntmps77
  by_cases h0 : 0 ≤ n <;> by_cases h1 : n < (m : Int)
  all_goals
    go_wp2
    go_ret
    simp_all
/-- What is met with a text's number; its number then. -/
def addT (nt : Nat) (ts : List Nat) (n : Int) : List Nat := if 0 ≤ n ∧ n < (nt : Int) then addN ts n.toNat else ts
def numT (nt : Nat) (ts : List Nat) (n : Int) : Int := if 0 ≤ n ∧ n < (nt : Int) then posN ts n.toNat else n
/-- The book behind a call. -/
def BkP (B bb nt no : Nat) (c : Nat → Value) (w : World) (ts os : List Nat) (w' : World) : Prop :=
  ∃ c', BkM B bb nt no c' w' ts os ∧ Fr (bkb c bb) w w' ∧ (∀ k, bkb c' bb k → bkb c bb k ∨ w.heap.size ≤ k) ∧ ∀ i, i ≤ 6 → c' i = c i
def TxP (B bb nt no : Nat) (c : Nat → Value) (w : World) (ts os : List Nat) (n : Int) (e : Ending) (w' : World) : Prop :=
  e = .returned (.int .i64 (numT nt (addT nt ts n) n)) ∧ BkP B bb nt no c w (addT nt ts n) os w'
theorem BkM.same {B bb nt no : Nat} {c : Nat → Value} {w : World} {ts os : List Nat} (h : BkM B bb nt no c w ts os) : BkP B bb nt no c w ts os w := ⟨c, h, Fr.refl _ _, fun k hk => .inl hk, fun _ _ => rfl⟩
theorem BkM.cell {B bb nt no : Nat} {c : Nat → Value} {w : World} {ts os : List Nat} (h : BkM B bb nt no c w ts os) (j : Nat) : w.cell? ⟨bb, j, none⟩ = (bkC c)[j]? := (blk_cells h.box).1 j
set_option maxRecDepth 100000 in
set_option maxHeartbeats 3200000 in
theorem btext_any {B bb nt no : Nat} {c : Nat → Value} {w : World} {ts os : List Nat} (h : BkM B bb nt no c w ts os) {ta : Option Addr} {tc : Nat} (h0 : c 0 = .slice ta nt tc) (hT : ts.length ≤ 1048576) (n : Int) :
    Calls Try.prog 59 #[.pointer (some ⟨bb, 0, none⟩), .int .i64 n] w (TxP B bb nt no c w ts os n) := by
  have hbb := (blk_cells h.box).2.2
  have m0 : w.cell? ⟨bb, 0, none⟩ = some (.slice ta nt tc) := by rw [h.cell 0, ← h0]; rfl
  by_cases hn : 0 ≤ n ∧ n < (nt : Int)
  case neg =>
    have e1 : Hid (addT nt ts n = ts) := by unfold addT; rw [if_neg hn]; exact hide rfl
    have e2 : Hid (numT nt ts n = n) := by unfold numT; rw [if_neg hn]; exact hide rfl
    have HM := hide h
    have HW := hide (fun w => namesT_any w nt n)
    rw [decide_eq_false hn] at HW
    clear h hn
    go_enter Try.func59, Try.ntmps59
    go_wp2_with fail
    refine (unhide HW _).mono ?_
    rintro e w1 ⟨rfl, rfl⟩
    go_wp2_with fail
    go_ret
    exact ⟨by rw [unhide e1, unhide e2]; rfl, by rw [unhide e1]; exact (unhide HM).same⟩
  obtain ⟨i, rfl⟩ : ∃ i : Nat, n = i := ⟨n.toNat, by omega⟩
  have hi : i < nt := by omega
  have HW := hide (fun w => namesT_any w nt i)
  rw [decide_eq_true hn] at HW
  obtain ⟨a9, p9, e9, q9, q9'⟩ := h.r3.shape
  obtain ⟨g, off, cap, e9', g1, g2, g3, g4⟩ := h.r3.full (by omega)
  rw [e9] at e9'
  injection e9' with ea eb ec
  subst ea ec
  have m9 : w.cell? ⟨bb, 9, none⟩ = some (.slice (some ⟨g, off, none⟩) nt p9) := by rw [h.cell 9, ← e9]; rfl
  have z0 : w.cell? ⟨g, off + i, none⟩ = some (.int .i64 (posN ts i)) := by
    rw [g4 i (by omega)]
    have := flt_at zL (allP_at (l := ts) hi) 0 (by omega)
    rw [Nat.mul_one, Nat.add_zero] at this
    exact this
  have i0 : (0 : Int) ≤ (i : Int) := by omega
  have i1 : (i : Int) < (nt : Int) := by omega
  unfold maxLen at g2
  by_cases hin : i ∈ ts
  · have e1 : Hid (addT nt ts i = ts) := by unfold addT addN; rw [if_pos hn, Int.toNat_natCast, if_pos hin]; exact hide rfl
    have e2 : Hid (numT nt ts i = posN ts i) := by unfold numT; rw [if_pos hn, Int.toNat_natCast]; exact hide rfl
    have hp : decide (posN ts i < 0) = false := decide_eq_false (by rw [posN_neg]; simpa using hin)
    have HM := hide h
    obtain ⟨pz, hpz⟩ : ∃ z, Hid (posN ts i = z) := ⟨_, hide rfl⟩
    rw [unhide hpz] at z0 hp e2
    clear h hn hin g4 e9 q9 q9' eb
    go_enter Try.func59, Try.ntmps59
    go_wp2_with fail
    refine (unhide HW _).mono ?_
    rintro e w1 ⟨rfl, rfl⟩
    go_wp2_with fail
    go_ret
    exact ⟨by rw [unhide e1, unhide e2]; rfl, by rw [unhide e1]; exact (unhide HM).same⟩
  have e1 : Hid (addT nt ts i = ts ++ [i]) := by unfold addT addN; rw [if_pos hn, Int.toNat_natCast, if_neg hin]; exact hide rfl
  have e2 : Hid (numT nt (ts ++ [i]) i = (ts.length : Int)) := by unfold numT; rw [if_pos hn, Int.toNat_natCast, posN_self hin]; exact hide rfl
  have hpm : posN ts i = -1 := by unfold posN; rw [if_neg hin]
  rw [hpm] at z0
  obtain ⟨a7, p7, e7, q7, q7'⟩ := h.r1.shape
  have m7 : w.cell? ⟨bb, 7, none⟩ = some (.slice a7 ts.length p7) := by rw [h.cell 7, ← e7]; rfl
  have fz := h.r3.free e9 (off + i)
  have hgb : bb ≠ g := fun e => (h.fb 9 g (by omega) (by omega) (by rw [e9]; rfl)).2 e.symm
  have HM := hide (h.below (bl_drew w))
  have HE9 := hide e9
  have HE7 := hide e7
  have HIN := hide hin
  have HHI := hide hi
  obtain ⟨TL, hTL⟩ : ∃ m, Hid (ts.length = m) := ⟨_, hide rfl⟩
  rw [unhide hTL] at m7 hT q7
  have f9 := (blk_cells h.box).2.1 7
  unfold maxLen at q7'
  have HRo : Hid (∀ O, Ro ((w.setCell ⟨g, off + i, none⟩ (.int .i64 (TL : Int))).drew.alloc O) 1 (.slice a7 TL p7) TL (flt enN ts)) := fun O => by
    have hF : Fr (fun k => k = g) w ((w.setCell ⟨g, off + i, none⟩ (.int .i64 (TL : Int))).drew.alloc O) := (((Fr.refl (fun k => k = g) w).setCell ⟨g, off + i, none⟩ (.inr rfl) _).drew).alloc O
    have := h.r1.fr hF (fun k hk q => h.ap 7 9 k (by omega) (by omega) (by omega) (by omega) (by omega) hk (by rw [e9, q]; rfl))
    rw [e7, unhide hTL] at this
    exact this
  have HSB : Hid ((w.setCell ⟨g, off + i, none⟩ (.int .i64 (TL : Int))).drew.cell? ⟨bb, 9, none⟩ = some (.slice (some ⟨g, off, none⟩) nt p9) ∧ (w.setCell ⟨g, off + i, none⟩ (.int .i64 (TL : Int))).drew.cell? ⟨bb, 7, none⟩ = some (.slice a7 TL p7)) :=
    ⟨(World.cell?_of_block (Below.heap_setCell _ _ _ _ hgb)).trans m9, (World.cell?_of_block (Below.heap_setCell _ _ _ _ hgb)).trans m7⟩
  have HNC := hide (new_cells ((w.setCell ⟨g, off + i, none⟩ (.int .i64 (TL : Int))).drew) #[.int .i64 (i : Int)] 3)
  have hsz : (w.setCell ⟨g, off + i, none⟩ (.int .i64 (TL : Int))).drew.heap.size = w.heap.size := by simp [World.setCell, World.drew]
  have HC6 : Hid (∀ v' i, i ≤ 6 → (upd c 7 v') i = c i) := fun v' i hi => by unfold upd; rw [if_neg (by omega)]
  clear h hn hin g4 e9 e7 hpm eb q9 q9' hi
  go_enter Try.func59, Try.ntmps59
  go_wp2_with fail
  refine (unhide HW _).mono ?_
  rintro e w1 ⟨rfl, rfl⟩
  go_wp2_with fail
  go_region_held3 (fun w' => w'.cell? ⟨bb, 9, none⟩ = some (.slice (some ⟨g, off, none⟩) nt p9) ∧ w'.cell? ⟨bb, 7, none⟩ = some (.slice a7 TL p7)) (first | exact unhide HSB | go_keep) (fail)
  have u7 := (unhide HSB).2
  clear m0 m7 m9 z0
  go_wp2_with (first | (at_builtin; refine appN rfl _ _ rfl _ TL ts rfl (unhide HRo _) ⟨w1.heap.size, 0, none⟩ 1 i rfl (by have := unhide HNC; rw [hsz] at this; exact this) (by omega) ?_))
  intro v' w2 hr hg hat
  obtain ⟨va, vc, ev, -, -⟩ := hr.shape
  have hat2 : v'.ownBlock = (Value.slice a7 TL p7).ownBlock ∨ v'.ownBlock = some ((w1.drew.setCell ⟨g, off + i, none⟩ (.int .i64 (TL : Int))).heap.size + 1) := by rw [show (w1.drew.setCell ⟨g, off + i, none⟩ (.int .i64 (TL : Int))).heap.size = w1.heap.size from hsz]; exact hat
  obtain ⟨r1, r2, r3, r4, r5⟩ := (unhide HM).meetT (v' := v') (w2 := w2) (n := i) (unhide HIN) (unhide HHI) (unhide HE9) (by exact hr) (by rw [unhide hTL]) (by rw [unhide HE7, unhide hTL]; exact hg) (by rw [unhide HE7, unhide hTL, World.size_alloc]; exact hat2)
  have HR : Hid (BkP B bb nt no c w1 (ts ++ [i]) os (w2.setCell ⟨bb, 7, none⟩ v')) := ⟨_, r1, ⟨r2.os, r2.tape, r2.output, r2.size, r2.block⟩, r3, unhide HC6 v'⟩
  have y7 := (blk_cells r4).1 7
  have y9 := (blk_cells r4).1 9
  have yf := (blk_cells r4).2.1 7
  have yl := (blk_cells r4).2.2
  have x7 : w2.cell? ⟨bb, 7, none⟩ = some (c 7) := y7
  have x9 : w2.cell? ⟨bb, 9, none⟩ = some (.slice (some ⟨g, off, none⟩) nt p9) := by rw [← unhide HE9]; exact y9
  have xz : w2.cell? ⟨g, off + i, none⟩ = some (.int .i64 (TL : Int)) := by
    rw [unhide HE9] at r5
    obtain ⟨g', off', cap', e', _, _, _, hc'⟩ := r5.full (by have := unhide HHI; omega)
    cases e'
    rw [hc' i (by have := unhide HHI; omega)]
    have := flt_at zL (allP_at (l := ts ++ [i]) (unhide HHI)) 0 (by omega)
    rw [Nat.mul_one, Nat.add_zero, posN_self (unhide HIN), unhide hTL] at this
    exact this
  have hgb2 : g ≠ bb := fun e => hgb e.symm
  subst ev
  clear hr hg hat hat2 r1 r2 r3 r4 r5 y7 y9 u7 HRo HNC HSB HM
  go_wp2_with fail
  go_ret
  exact ⟨by rw [unhide e1, unhide e2, unhide hTL]; rfl, by rw [unhide e1]; exact unhide HR⟩

set_option linter.unusedVariables false
set_option linter.unusedSimpArgs false
/-- What is met with a value; the value with its number then. -/
def metV (nt : Nat) (O : List Ob) (m : List Nat × List Nat) (v : Int × Int) : List Nat × List Nat :=
  if v.1 = 4 then (addT nt m.1 v.2, m.2) else if (nmO O v).isSome then (m.1, addN m.2 v.2.toNat) else m
def numV (nt : Nat) (O : List Ob) (m : List Nat × List Nat) (v : Int × Int) : Int × Int :=
  if v.1 = 4 then (4, numT nt m.1 v.2) else if (nmO O v).isSome then (v.1, posN m.2 v.2.toNat) else v
def VlP (B bb nt no : Nat) (O : List Ob) (c : Nat → Value) (w : World) (m : List Nat × List Nat) (v : Int × Int) (e : Ending) (w' : World) : Prop :=
  e = .returned (.agg #[.int .i64 (numV nt O (metV nt O m v) v).1, .int .i64 (numV nt O (metV nt O m v) v).2]) ∧ BkP B bb nt no c w (metV nt O m v).1 (metV nt O m v).2 w'
/-- The book behind what was done with boxes of one's own. -/
theorem BkP.wrap {B bb nt no : Nat} {c : Nat → Value} {w X w1 W : World} {ts os us vs : List Nat} (h0 : BkM B bb nt no c w us vs) (h : BkP B bb nt no c X ts os w1) (hX : Below w.heap.size w X) (hF : Fr (fun k => w.heap.size ≤ k ∧ k < X.heap.size) w1 W) : BkP B bb nt no c w ts os W := by
  obtain ⟨c', h1, h2, h3, h4⟩ := h
  have hlt : ∀ k, bkb c bb k → k < w.heap.size := fun k hk => (h0.in hk).2
  refine ⟨c', h1.fr hF (fun k hk q => ?_), ?_, fun k hk => ?_, h4⟩
  · rcases h3 k hk with r | r
    · have := hlt k r; omega
    · omega
  · have f2 := (Fr.of_below (S := bkb c bb) hX).trans h2
    exact ⟨hF.os.trans f2.os, hF.tape.trans f2.tape, hF.output.trans f2.output, Nat.le_trans f2.size hF.size, fun k hk hn => (hF.block k (Nat.lt_of_lt_of_le hk f2.size) (by omega)).trans (f2.block k hk hn)⟩
  · rcases h3 k hk with r | r
    · exact .inl r
    · exact .inr (Nat.le_trans hX.size r)
theorem noM {os : List Ob} {k n : Int} {o : Ob} (h : nmO os (k, n) = some o) : ∃ i : Nat, n = i ∧ os[i]? = some o := by
  unfold nmO at h
  split at h
  · rename_i hq
    simp only at hq h
    rw [Option.bind_eq_some_iff] at h
    obtain ⟨o', ho', hk'⟩ := h
    split at hk'
    · cases hk'
      exact ⟨n.toNat, by omega, ho'⟩
    · cases hk'
  · cases h
theorem blk2v (w : World) (o1 o2 : Obj) : ((w.alloc o1).alloc o2).drew.heap[w.heap.size]? = some o1 ∧ ((w.alloc o1).alloc o2).drew.heap[w.heap.size + 1]? = some o2 := by
  refine ⟨?_, ?_⟩
  · show ((w.alloc o1).alloc o2).heap[w.heap.size]? = some o1
    rw [Below.heap_alloc _ _ _ (by simp only [World.size_alloc]; omega)]; exact heap_alloc_new w o1
  · show ((w.alloc o1).alloc o2).heap[w.heap.size + 1]? = some o2
    have := heap_alloc_new (w.alloc o1) o2
    simpa only [World.size_alloc] using this
theorem bkeep1 {w w' : World} {b : Nat} {o : Obj} (h : w.heap[b]? = some o) (k : Below w.heap.size w w') : w'.heap[b]? = some o := (k.block b (Array.getElem?_eq_some_iff.1 h).1).trans h
set_option maxRecDepth 100000 in
set_option maxHeartbeats 3200000 in
theorem bvalue_4 {B bb nt no : Nat} {c : Nat → Value} {w : World} {ts os : List Nat} {O : List Ob} (h : BkM B bb nt no c w ts os) {ta oa : Option Addr} {tc oc : Nat} (h0 : c 0 = .slice ta nt tc) (h1 : c 1 = .slice oa no oc) (hO : OsV w (.slice oa no oc) O) (hT : ts.length ≤ 1048576) (hL : os.length ≤ 1048576) (k n : Int) (hk : k = 4) :
    Calls Try.prog 58 #[.pointer (some ⟨bb, 0, none⟩), .agg #[.int .i64 k, .int .i64 n]] w (VlP B bb nt no O c w (ts, os) (k, n)) := by
  subst hk
  have em : metV nt O (ts, os) (4, n) = (addT nt ts n, os) := by simp [metV]
  have en : numV nt O (addT nt ts n, os) (4, n) = (4, numT nt (addT nt ts n) n) := by simp [numV]
  have HP : Hid (∀ W, BkP B bb nt no c w (addT nt ts n) os W → VlP B bb nt no O c w (ts, os) (4, n) (.returned (.agg #[.int .i64 4, .int .i64 (numT nt (addT nt ts n) n)])) W) := fun W hW => by unfold VlP; rw [em, en]; exact ⟨rfl, hW⟩
  have HC := hide (btext_any ((h.below (bl_two w (.cells #[.int .i64 4, .int .i64 n] 40) (.cells #[.int .i64 0, .int .i64 0] 40))).below (bl_drew _)) h0 hT n)
  have HM := hide h
  obtain ⟨p1, p2⟩ := blk2v w (.cells #[.int .i64 4, .int .i64 n] 40) (.cells #[.int .i64 0, .int .i64 0] 40)
  have HP1 := hide p1
  have HP2 := hide p2
  obtain ⟨num, hnum⟩ : ∃ z, Hid (numT nt (addT nt ts n) n = z) := ⟨_, hide rfl⟩
  unfold TxP at HC
  rw [unhide hnum] at HP HC
  clear em en p1 p2 h hO h0 h1
  go_enter Try.func58, Try.ntmps58
  go_wp2_with fail
  go_region_held3 (fun w' => w'.cell? ⟨w.heap.size, 0, none⟩ = some (.int .i64 4) ∧ w'.cell? ⟨w.heap.size, 1, none⟩ = some (.int .i64 n)) (first | exact unhide HSB | go_keep) (first | (go_at_call 59; refine (unhide HC).mono ?_; rintro e w1 ⟨rfl, hb⟩; have hF := hb.choose_spec.2.1; have hlt : ∀ k, bkb c bb k → k < w.heap.size := fun k hk => ((unhide HM).in hk).2; have y1 := (blk_cells ((hF.block w.heap.size (by simp; omega) (fun q => by have := hlt _ q; omega)).trans (unhide HP1))).1; have y2 := (blk_cells ((hF.block (w.heap.size + 1) (by simp) (fun q => by have := hlt _ q; omega)).trans (unhide HP2))); have HSB : Hid (w1.cell? ⟨w.heap.size, 0, none⟩ = some (.int .i64 4) ∧ w1.cell? ⟨w.heap.size, 1, none⟩ = some (.int .i64 n)) := ⟨y1 0, y1 1⟩; have z0 := y2.1 0; have z1 := y2.1 1; have f0 := y2.2.1 0; have f1 := y2.2.1 1; have HBK := hide hb; simp at z0 z1; clear y1 y2 hF hb hlt))
  go_wp2_with fail
  refine bodyPost_ret (v := .agg #[.int .i64 4, .int .i64 num]) ?_ rfl ?_
  · rw [results_cell_one rfl]
    go_simp
  · apply unhide HP
    refine BkP.wrap (unhide HM) (unhide HBK) (bl_past (bl_two w _ _) (bl_drew _)) ?_
    repeat (first | refine Fr.setCell ?_ _ (by right; simp) _ | with_reducible exact Fr.refl _ _)
set_option maxRecDepth 100000 in
set_option maxHeartbeats 3200000 in
theorem bvalue_no {B bb nt no : Nat} {c : Nat → Value} {w : World} {ts os : List Nat} {O : List Ob} (h : BkM B bb nt no c w ts os) {ta oa : Option Addr} {tc oc : Nat} (h0 : c 0 = .slice ta nt tc) (h1 : c 1 = .slice oa no oc) (hO : OsV w (.slice oa no oc) O) (hT : ts.length ≤ 1048576) (hL : os.length ≤ 1048576) (k n : Int) (hk : ¬ k = 4) (hx : nmO O (k, n) = none) :
    Calls Try.prog 58 #[.pointer (some ⟨bb, 0, none⟩), .agg #[.int .i64 k, .int .i64 n]] w (VlP B bb nt no O c w (ts, os) (k, n)) := by
  have em : metV nt O (ts, os) (k, n) = (ts, os) := by simp [metV, hk, hx]
  have en : numV nt O (ts, os) (k, n) = (k, n) := by simp [numV, hk, hx]
  have HP : Hid (∀ W, BkP B bb nt no c w ts os W → VlP B bb nt no O c w (ts, os) (k, n) (.returned (.agg #[.int .i64 k, .int .i64 n])) W) := fun W hW => by unfold VlP; rw [em, en]; exact ⟨rfl, hW⟩
  have HP1 := hide (blk2v w (.cells #[.int .i64 k, .int .i64 n] 40) (.cells #[.int .i64 0, .int .i64 0] 40)).1
  have HP2 := hide (blk2v w (.cells #[.int .i64 k, .int .i64 n] 40) (.cells #[.int .i64 0, .int .i64 0] 40)).2
  have HC0 := namesO_any (hO.below (bl_past (bl_two w (.cells #[.int .i64 k, .int .i64 n] 40) (.cells #[.int .i64 0, .int .i64 0] 40)) (bl_drew _)) (Nat.le_refl _)) k n
  have d4 : (k == 4) = false := by simpa using hk
  have m1 : w.cell? ⟨bb, 1, none⟩ = some (.slice oa no oc) := by rw [h.cell 1, ← h1]; rfl
  have hbb := (blk_cells h.box).2.2
  have hbb1 : bb < w.heap.size + 1 := by omega
  have hbb2 : bb < w.heap.size + 1 + 1 := by omega
  have HM := hide h
  rw [hx] at HC0
  have HC := hide HC0
  clear em en h hO h0 h1 HC0 hx hk
  go_enter Try.func58, Try.ntmps58
  go_wp2_with fail
  go_region_held3 (fun w' => w'.cell? ⟨w.heap.size, 0, none⟩ = some (.int .i64 k) ∧ w'.cell? ⟨w.heap.size, 1, none⟩ = some (.int .i64 n) ∧ w'.cell? ⟨bb, 1, none⟩ = some (.slice oa no oc)) (first | exact unhide HSB | go_keep) (first | (go_at_call 54; refine (unhide HC).mono ?_; rintro e w1 ⟨rfl, hb⟩; have y1 := (blk_cells (bkeep1 (unhide HP1) hb)).1; have HSB : Hid (w1.cell? ⟨w.heap.size, 0, none⟩ = some (.int .i64 k) ∧ w1.cell? ⟨w.heap.size, 1, none⟩ = some (.int .i64 n) ∧ w1.cell? ⟨bb, 1, none⟩ = some (.slice oa no oc)) := ⟨y1 0, y1 1, ((bl_past (bl_past (bl_two w _ _) (bl_drew _)) hb).cell (p := ⟨bb, 1, none⟩) hbb).trans m1⟩))
  have HB1 := hide (bl_past (bl_past (bl_two w _ _) (bl_drew _)) hb)
  have HQ1 := hide (bkeep1 (unhide HP1) hb)
  have HQ2 := hide (bkeep1 (unhide HP2) hb)
  have hs1 : w.heap.size + 1 < w1.heap.size := (blk_cells (unhide HQ2)).2.2
  clear hb m1 HSB HC y1
  obtain ⟨q1, -, -⟩ := blk_cells (unhide HQ1)
  obtain ⟨q2, f2, -⟩ := blk_cells (unhide HQ2)
  have a0 := q1 0
  have a1 := q1 1
  have z0 := q2 0
  have z1 := q2 1
  have f0 := f2 0
  have f1 := f2 1
  simp at a0 a1 z0 z1
  clear q1 q2 f2
  go_wp2_with fail
  refine bodyPost_ret (v := .agg #[.int .i64 k, .int .i64 n]) ?_ rfl ?_
  · rw [results_cell_one rfl]
    go_simp
  · apply unhide HP
    refine BkP.wrap (unhide HM) ((unhide HM).below (unhide HB1)).same (unhide HB1) ?_
    repeat (first | refine Fr.setCell ?_ _ (by right; simp; omega) _ | with_reducible exact Fr.refl _ _)
end Go.Proofs.Ytadgiccfjppnfaa
