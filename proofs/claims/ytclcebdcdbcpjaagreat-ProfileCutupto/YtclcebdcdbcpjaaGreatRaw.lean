/-
  Raw of a reader, and NewReader.
-/
import Derived.Test.YtclcebdcdbcpjaaGreatRead8
import Derived.Test.YtclcebdcdbcpjaaGreatMeths2
import Derived.Test.YtclcebdcdbcpjaaGreatCopy
import Derived.Test.YtclcebdcdbcpjaaGreatText
namespace Go.Proofs.YtclcebdcdbcpjaaGreat
open Go.RowKit

theorem catch_idleR (p q : Addr) (w : World) :
    CallsD Tryz.prog 82 #[.pointer (some p), .pointer (some q)] .returning w fun e u' w' => e = .returned (.tuple #[]) ∧ u' = .returning ∧ w' = w := by
  refine callsD_of_wpS Tryz.func82 rfl fun c₀ cs hu => ?_
  apply wpS_seq
  apply wpS_region
  simp [wpOpsS, go_sem, recoverD, hu, Tryz.ntmps82, Exit.thenS, ta_nil]
  apply wpS_seq
  apply wpS_region
  simp [wpOpsS, go_sem, Exit.thenS]
  refine wpS_cond (t := false) (by simp [Act.eval, Array.replicate]) ?_
  simp only [Bool.false_eq_true, if_false]
  refine wpS_of_wp (wp_skip ?_)
  cases c₀
  simp_all [bodyPostS, results, Tryz.results82]

set_option maxHeartbeats 400000 in
set_option maxRecDepth 100000 in
theorem catch_panickingR (r : Nat) (p q : Addr) (u0 : Value) (a0 : Option Addr) (l0 c0 : Nat) (x0 k : Int) (w : World) (hp : w.cell? p = some (.slice a0 l0 c0)) (hq : w.cell? q = some (.pointer (some ⟨r, 0, none⟩)))
    (h0 : w.cell? ⟨r, 0, none⟩ = some u0) (h1 : w.cell? ⟨r, 1, none⟩ = some (.int .i64 x0)) (f0 : w.frozen? ⟨r, 0, none⟩ = false) (f1 : w.frozen? ⟨r, 1, none⟩ = false) :
    CallsD Tryz.prog 82 #[.pointer (some p), .pointer (some q)] (.panicking [{ v := .iface 26 (.int .i64 k), recovered := false }]) w fun e u' w' =>
      e = .returned (.tuple #[]) ∧ u' = .panicking [{ v := .iface 26 (.int .i64 k), recovered := true }] ∧ w' = (w.setCell ⟨r, 0, none⟩ (.slice a0 l0 c0)).setCell ⟨r, 1, none⟩ (.int .i64 k) := by
  refine callsD_of_wpS Tryz.func82 rfl fun c₀ cs hu => ?_
  apply wpS_seq
  apply wpS_region
  simp [wpOpsS, go_sem, recoverD, hu, Tryz.ntmps82, Exit.thenS, ta_err]
  apply wpS_seq
  apply wpS_region
  simp [wpOpsS, go_sem, Exit.thenS]
  refine wpS_cond (t := true) (by simp [Act.eval, Array.replicate]) ?_
  simp only [if_true]
  simp [Array.replicate]
  refine wpS_of_wp ?_
  go_wp2
  exact ⟨rfl, _, rfl, _, by simp [results, Tryz.results82], rfl, rfl, rfl⟩

set_option maxHeartbeats 800000 in
set_option maxRecDepth 100000 in
theorem readR_ok (r : Nat) {rb : Nat} (v : Value) (bs bs' : List Int) (F : Nat) (first cap : Array Value) (val : Value) (w : World) (h : Rdr w r rb v bs 0) (hF : ∀ args w, (callFunc F args).run Tryz.prog w = .ok (.enter F args) w)
    (hp : ∀ w1, RFr r w w1 → Rdr w1 r rb v bs 0 → Calls Tryz.prog F (first ++ cap) w1 fun e w' => e = .returned val ∧ ∃ v2, Rdr w' r rb v2 bs' 0 ∧ RFr r w1 w') :
    Calls Tryz.prog 62 #[.pointer (some ⟨r, 0, none⟩), .func (Fn.func F) first cap] w fun e w' => e = .returned val ∧ ∃ v2, Rdr w' r rb v2 bs' 0 ∧ RFr r w w' := by
  have hmf : ∀ (fn : Fn) (first cap : Array Value) (w : World), (Instr.makeFunc fn first cap).run Tryz.prog w = .ok (.func fn first cap) w := fun _ _ _ _ => rfl
  have c0 := h.c0
  have c1 := h.c1
  have hr := h.lt
  have HP := hide hp
  have H := hide h
  obtain ⟨a0, cap0, rfl⟩ := h.shape
  clear h hp
  go_enter_defers Tryz.func62, Tryz.ntmps62
  go_wp2_with fail
  refine (unhide HP _ (RFr.alloc2 _ _ _ _) (((unhide H).alloc _).alloc _)).mono ?_
  rintro e w' ⟨rfl, v2, hW, hR⟩
  have HH := hide (And.intro hW hR)
  clear hW hR
  go_wp2
  refine leaves_cons (f := 82) (args := #[.pointer (some ⟨w.heap.size + 1, 0, none⟩), .pointer (some ⟨w.heap.size, 0, none⟩)]) (by simp) (by simp [go_sem]) ?_
  refine (catch_idleR _ _ _).mono ?_
  rintro e u' w'' ⟨rfl, rfl, rfl⟩
  exact ⟨_, results_tmp rfl _ _ _, rfl, v2, (unhide HH).1, (RFr.alloc2 _ _ _ _).trans (unhide HH).2⟩

set_option maxHeartbeats 800000 in
set_option maxRecDepth 100000 in
theorem readR_fail (r : Nat) {rb : Nat} (v : Value) (bs : List Int) (F : Nat) (first cap : Array Value) (k : Int) (w : World) (h : Rdr w r rb v bs 0) (hF : ∀ args w, (callFunc F args).run Tryz.prog w = .ok (.enter F args) w)
    (hp : ∀ w1, RFr r w w1 → Rdr w1 r rb v bs 0 → Calls Tryz.prog F (first ++ cap) w1 fun e w' => e = errPanic k ∧ ∃ v2 bs2, Rdr w' r rb v2 bs2 0 ∧ RFr r w1 w') :
    Calls Tryz.prog 62 #[.pointer (some ⟨r, 0, none⟩), .func (Fn.func F) first cap] w fun e w' => e = .returned (.slice none 0 0) ∧ Rdr w' r rb v bs k ∧ RFr r w w' := by
  have hmf : ∀ (fn : Fn) (first cap : Array Value) (w : World), (Instr.makeFunc fn first cap).run Tryz.prog w = .ok (.func fn first cap) w := fun _ _ _ _ => rfl
  have c0 := h.c0
  have c1 := h.c1
  have hr := h.lt
  have HP := hide hp
  have H := hide h
  obtain ⟨a0, cap0, rfl⟩ := h.shape
  clear h hp
  go_enter_defers Tryz.func62, Tryz.ntmps62
  go_wp2_with fail
  refine (unhide HP _ (RFr.alloc2 _ _ _ _) (((unhide H).alloc _).alloc _)).mono ?_
  rintro e w' ⟨rfl, v2, bs2, hW, hR⟩
  have HH := hide (And.intro hW hR)
  clear hW hR
  refine leaves_cons (f := 82) (args := #[.pointer (some ⟨w.heap.size + 1, 0, none⟩), .pointer (some ⟨w.heap.size, 0, none⟩)]) (by simp) (by simp [go_sem]) ?_
  refine (catch_panickingR r ⟨w.heap.size + 1, 0, none⟩ ⟨w.heap.size, 0, none⟩ v2 a0 bs.length cap0 0 k w' ?_ ?_ (unhide HH).1.c0 (unhide HH).1.c1 (unhide HH).1.f0 (unhide HH).1.f1).mono ?_
  · rw [(unhide HH).2.cell (a := ⟨w.heap.size + 1, 0, none⟩) (by simp) (by simp; omega)]; simp
  · rw [(unhide HH).2.cell (a := ⟨w.heap.size, 0, none⟩) (by simp; omega) (by simp; omega)]; simp
  rintro e u' w'' ⟨rfl, rfl, rfl⟩
  have hback := (unhide HH).1.back (unhide H) ((RFr.alloc2 _ _ _ _).trans (unhide HH).2) k
  exact ⟨_, results_tmp rfl _ _ _, rfl, hback.1, hback.2⟩

set_option maxHeartbeats 800000 in
set_option maxRecDepth 100000 in
theorem readR_err (r : Nat) {rb : Nat} (v : Value) (bs : List Int) (e0 : Int) (fv : Value) (w : World) (h : Rdr w r rb v bs e0) (he : e0 ≠ 0) :
    Calls Tryz.prog 62 #[.pointer (some ⟨r, 0, none⟩), fv] w fun e w' => e = .returned (.slice none 0 0) ∧ Rdr w' r rb v bs e0 ∧ RFr r w w' := by
  have c1 := h.c1
  have hr := h.lt
  have H := hide h
  have he' : (e0 != 0) = true := by rw [bne_iff_ne]; exact he
  clear h he
  go_enter_defers Tryz.func62, Tryz.ntmps62
  go_wp2
  exact ⟨_, results_tmp rfl _ _ _, rfl, (unhide H).alloc _, (Fr.refl _ _).alloc _⟩

theorem own_mono {w : World} {base base' : Nat} {v : Value} {n : Nat} {xs : List Value} (h : w.ownsRow base 5 1 v n xs) (hb : base' ≤ base) : w.ownsRow base' 5 1 v n xs := by
  refine ⟨h.1, ?_⟩
  rcases h.2 with h | ⟨g, cap, cur, h1, h2, h3⟩
  · exact .inl h
  · exact .inr ⟨g, cap, cur, h1, by omega, h3⟩

/-- slices.Clone, of whatever bytes. -/
theorem clone_any (v : Value) (bs : List Int) (w : World) (h : Rd w v bs) (hb : bs.length ≤ 140737488355328) :
    Calls Tryz.prog 43 #[v] w fun e w' => ∃ v', e = .returned v' ∧ w'.ownsRow w.heap.size 5 1 v' bs.length (bs.map By) ∧ Below w.heap.size w w' := by
  rcases h with ⟨rfl, rfl⟩ | ⟨b, off, cap, rfl, h1, h2, h3, h4⟩
  · exact (clone_nil w).mono fun e w' ⟨h1, h2⟩ => ⟨_, h1, World.ownsRow_nil _ _ _ _, h2 ▸ Below.refl _ _⟩
  · refine clone_some ⟨b, off, none⟩ bs.length cap (bs.map By) w (by simp) ?_ (by simp [By, Value.oneCell']) hb h3
    intro j u hj
    rw [addr_add]
    have hlt : j < bs.length := by
      have := (List.getElem?_eq_some_iff.1 hj).1
      simpa using this
    rw [h4 j hlt]
    simp [List.getElem?_map, List.getElem?_eq_getElem hlt] at hj
    rw [← hj, List.getD_eq_getElem?_getD, List.getElem?_eq_getElem hlt]; rfl

set_option maxHeartbeats 800000 in
set_option maxRecDepth 100000 in
/-- read, at a list of bytes: whatever holds of the answer and the world behind the part holds behind it. -/
theorem readR_gen (r : Nat) {rb : Nat} (v : Value) (bs : List Int) (F : Nat) (first cap : Array Value) (P : Value → World → Prop) (w : World) (h : Rdr w r rb v bs 0) (hF : ∀ args w, (callFunc F args).run Tryz.prog w = .ok (.enter F args) w)
    (hp : ∀ w1, RFr r w w1 → Rdr w1 r rb v bs 0 → Calls Tryz.prog F (first ++ cap) w1 fun e w' => ∃ val, e = .returned val ∧ P val w') :
    Calls Tryz.prog 62 #[.pointer (some ⟨r, 0, none⟩), .func (Fn.func F) first cap] w fun e w' => ∃ val, e = .returned val ∧ P val w' := by
  have hmf : ∀ (fn : Fn) (first cap : Array Value) (w : World), (Instr.makeFunc fn first cap).run Tryz.prog w = .ok (.func fn first cap) w := fun _ _ _ _ => rfl
  have c0 := h.c0
  have c1 := h.c1
  have hr := h.lt
  have HP := hide hp
  have H := hide h
  obtain ⟨a0, cap0, rfl⟩ := h.shape
  clear h hp
  go_enter_defers Tryz.func62, Tryz.ntmps62
  go_wp2_with fail
  refine (unhide HP _ (RFr.alloc2 _ _ _ _) (((unhide H).alloc _).alloc _)).mono ?_
  rintro e w' ⟨val, rfl, hh⟩
  have HH := hide hh
  clear hh
  go_wp2
  refine leaves_cons (f := 82) (args := #[.pointer (some ⟨w.heap.size + 1, 0, none⟩), .pointer (some ⟨w.heap.size, 0, none⟩)]) (by simp) (by simp [go_sem]) ?_
  refine (catch_idleR _ _ _).mono ?_
  rintro e u' w'' ⟨rfl, rfl, rfl⟩
  exact ⟨_, results_tmp rfl _ _ _, val, rfl, unhide HH⟩

theorem enters57 (args : Array Value) (w : World) : (callFunc 63 args).run Tryz.prog w = .ok (.enter 63 args) w := by kernel_rfl

set_option maxHeartbeats 400000 in
set_option maxRecDepth 100000 in
theorem raw_part_fail (r : Nat) {rb : Nat} (v : Value) (bs : List Int) (n k : Int) (q p : Addr) (w : World) (h : Rdr w r rb v bs 0) (hk : n < 0 ∧ k = 1 ∨ (bs.length : Int) < n ∧ k = 2) (hq : w.cell? q = some (.pointer (some ⟨r, 0, none⟩))) (hp : w.cell? p = some (.int .i64 n)) :
    Calls Tryz.prog 63 #[.pointer (some q), .pointer (some p)] w fun e w' => PPost r rb w (.error k) e w' := by
  have hT : Hid (Calls Tryz.prog 64 #[.pointer (some ⟨r, 0, none⟩), .int .i64 n] w fun e w' => e = errPanic k ∧ w' = w) := by
    rcases hk with ⟨h1, rfl⟩ | ⟨h1, rfl⟩
    · exact take_neg r n w h1
    · exact take_short r n v bs 0 w h h1
  have H := hide h
  clear h hk
  go_enter Tryz.func63, Tryz.ntmps63
  go_wp2_with fail
  refine (unhide hT).mono ?_
  rintro e w' ⟨rfl, rfl⟩
  exact ⟨rfl, rfl, v, bs, unhide H, RFr.refl _ _⟩

set_option maxHeartbeats 400000 in
set_option maxRecDepth 100000 in
theorem raw_part_ok (r : Nat) {rb : Nat} (v : Value) (bs : List Int) (n : Nat) (q p : Addr) (w : World) (h : Rdr w r rb v bs 0) (hb : bs.length ≤ 140737488355328) (hn : n ≤ bs.length) (hq : w.cell? q = some (.pointer (some ⟨r, 0, none⟩))) (hp : w.cell? p = some (.int .i64 n)) :
    Calls Tryz.prog 63 #[.pointer (some q), .pointer (some p)] w fun e w' => ∃ val, e = .returned val ∧ w'.ownsRow w.heap.size 5 1 val n ((bs.take n).map By) ∧ ∃ v2, Rdr w' r rb v2 (bs.drop n) 0 ∧ RFr r w w' := by
  have hT := hide (take_ok r n v bs 0 w h hn)
  have hr := h.lt
  clear h
  go_enter Tryz.func63, Tryz.ntmps63
  go_wp2_with fail
  refine (unhide hT).mono ?_
  rintro e w1 ⟨v1, v2, rfl, hR, hap, hW, hF⟩
  have hC := hide (clone_any v1 (bs.take n) w1 hR (by rw [List.length_take]; omega))
  have HH := hide (And.intro hW hF)
  clear hR hap hW hF hT
  go_wp2_with fail
  refine (unhide hC).mono ?_
  rintro e w2 ⟨v3, rfl, ho, hB⟩
  have HO := hide (And.intro ho hB)
  clear ho hB
  go_wp2
  go_ret
  obtain ⟨hW, hF⟩ := unhide HH
  obtain ⟨ho, hB⟩ := unhide HO
  rw [List.length_take, Nat.min_eq_left hn] at ho
  have hf2 : Fr (fun _ => False) w1 w2 := Fr.of_below hB
  exact ⟨v3, rfl, own_mono ho hF.size, v2, hW.keep hf2 (by simp) (by simp), hF.trans (hf2.mono (by simp))⟩

/-- The error of Raw. -/
def rawErr (n : Int) (e0 : Int) : Int := if e0 = 0 then (if n < 0 then 1 else 2) else e0

theorem readR_bad (r : Nat) {rb : Nat} (v : Value) (bs : List Int) (e0 n : Int) (q p : Nat) (w : World) (h : Rdr w r rb v bs e0) (hq : w.cell? ⟨q, 0, none⟩ = some (.pointer (some ⟨r, 0, none⟩))) (hp : w.cell? ⟨p, 0, none⟩ = some (.int .i64 n)) (hqr : q ≠ r) (hpr : p ≠ r)
    (hbad : e0 ≠ 0 ∨ n < 0 ∨ (bs.length : Int) < n) :
    Calls Tryz.prog 62 #[.pointer (some ⟨r, 0, none⟩), .func (Fn.func 63) #[] #[.pointer (some ⟨q, 0, none⟩), .pointer (some ⟨p, 0, none⟩)]] w fun e w' => RPost r rb w (.slice none 0 0, bs, rawErr n e0) e w' := by
  have hql := World.block_lt_of_cell? _ _ hq
  have hpl := World.block_lt_of_cell? _ _ hp
  by_cases he : e0 = 0
  · subst he
    have hbad := hbad.resolve_left (by simp)
    refine (readR_fail r v bs 63 #[] #[.pointer (some ⟨q, 0, none⟩), .pointer (some ⟨p, 0, none⟩)] (rawErr n 0) w h enters57 (fun w1 hF h1 => ?_)).mono fun e w' ⟨h1, h2, h3⟩ => ⟨h1, v, h2, h3⟩
    refine raw_part_fail r v bs n _ ⟨q, 0, none⟩ ⟨p, 0, none⟩ w1 h1 ?_ ((Fr.cell hF (a := ⟨q, 0, none⟩) hql hqr).trans hq) ((Fr.cell hF (a := ⟨p, 0, none⟩) hpl hpr).trans hp)
    unfold rawErr
    rw [if_pos rfl]
    by_cases hn : n < 0
    · exact .inl ⟨hn, if_pos hn⟩
    · exact .inr ⟨hbad.resolve_left hn, if_neg hn⟩
  · unfold rawErr
    rw [if_neg he]
    exact (readR_err r v bs e0 _ w h he).mono fun e w' ⟨h1, h2, h3⟩ => ⟨h1, v, h2, h3⟩

theorem readR_good (r : Nat) {rb : Nat} (v : Value) (bs : List Int) (m : Nat) (q p : Nat) (w : World) (h : Rdr w r rb v bs 0) (hb : bs.length ≤ 140737488355328) (hq : w.cell? ⟨q, 0, none⟩ = some (.pointer (some ⟨r, 0, none⟩))) (hp : w.cell? ⟨p, 0, none⟩ = some (.int .i64 (m : Int))) (hqr : q ≠ r) (hpr : p ≠ r)
    (hm : m ≤ bs.length) :
    Calls Tryz.prog 62 #[.pointer (some ⟨r, 0, none⟩), .func (Fn.func 63) #[] #[.pointer (some ⟨q, 0, none⟩), .pointer (some ⟨p, 0, none⟩)]] w fun e w' =>
      ∃ val, e = .returned val ∧ w'.ownsRow w.heap.size 5 1 val m ((bs.take m).map By) ∧ ∃ v2, Rdr w' r rb v2 (bs.drop m) 0 ∧ RFr r w w' := by
  have hql := World.block_lt_of_cell? _ _ hq
  have hpl := World.block_lt_of_cell? _ _ hp
  refine readR_gen r v bs 63 #[] #[.pointer (some ⟨q, 0, none⟩), .pointer (some ⟨p, 0, none⟩)] _ w h enters57 (fun w1 hF h1 => ?_)
  refine (raw_part_ok r v bs m ⟨q, 0, none⟩ ⟨p, 0, none⟩ w1 h1 hb hm ((Fr.cell hF (a := ⟨q, 0, none⟩) hql hqr).trans hq) ((Fr.cell hF (a := ⟨p, 0, none⟩) hpl hpr).trans hp)).mono ?_
  rintro e w' ⟨val, rfl, ho, v2, h2, h3⟩
  exact ⟨val, rfl, own_mono ho hF.size, v2, h2, hF.trans h3⟩

set_option maxHeartbeats 400000 in
set_option maxRecDepth 100000 in
theorem rRaw_bad (r : Nat) {rb : Nat} (v : Value) (bs : List Int) (e0 n : Int) (w : World) (h : Rdr w r rb v bs e0) (hbad : e0 ≠ 0 ∨ n < 0 ∨ (bs.length : Int) < n) :
    Calls Tryz.prog 38 #[.pointer (some ⟨r, 0, none⟩), .int .i64 n] w fun e w' => RPost r rb w (.slice none 0 0, bs, rawErr n e0) e w' := by
  have hmf : ∀ (fn : Fn) (first cap : Array Value) (w : World), (Instr.makeFunc fn first cap).run Tryz.prog w = .ok (.func fn first cap) w := fun _ _ _ _ => rfl
  have hr := h.lt
  have hR := hide (readR_bad r v bs e0 n w.heap.size (w.heap.size + 1) ((w.alloc (.cells #[.pointer (some ⟨r, 0, none⟩)] 54)).alloc (.cells #[.int .i64 n] 3)) ((h.alloc _).alloc _) (by simp) (by simp) (by omega) (by omega) hbad)
  clear h hbad
  go_enter Tryz.func38, Tryz.ntmps38
  go_wp2_with fail
  refine (unhide hR).mono ?_
  rintro e w' ⟨rfl, v2, hW, hF⟩
  have HH := hide (And.intro hW hF)
  clear hW hF
  go_wp2
  go_ret
  exact ⟨rfl, v2, (unhide HH).1, (RFr.alloc2 r w _ _).trans (unhide HH).2⟩

set_option maxHeartbeats 400000 in
set_option maxRecDepth 100000 in
theorem rRaw_good (r : Nat) {rb : Nat} (v : Value) (bs : List Int) (m : Nat) (w : World) (h : Rdr w r rb v bs 0) (hb : bs.length ≤ 140737488355328) (hm : m ≤ bs.length) :
    Calls Tryz.prog 38 #[.pointer (some ⟨r, 0, none⟩), .int .i64 (m : Int)] w fun e w' =>
      ∃ val, e = .returned val ∧ w'.ownsRow w.heap.size 5 1 val m ((bs.take m).map By) ∧ ∃ v2, Rdr w' r rb v2 (bs.drop m) 0 ∧ RFr r w w' := by
  have hmf : ∀ (fn : Fn) (first cap : Array Value) (w : World), (Instr.makeFunc fn first cap).run Tryz.prog w = .ok (.func fn first cap) w := fun _ _ _ _ => rfl
  have hr := h.lt
  have hR := hide (readR_good r v bs m w.heap.size (w.heap.size + 1) ((w.alloc (.cells #[.pointer (some ⟨r, 0, none⟩)] 54)).alloc (.cells #[.int .i64 (m : Int)] 3)) ((h.alloc _).alloc _) hb (by simp) (by simp) (by omega) (by omega) hm)
  clear h
  go_enter Tryz.func38, Tryz.ntmps38
  go_wp2_with fail
  refine (unhide hR).mono ?_
  rintro e w' ⟨val, rfl, ho, v2, hW, hF⟩
  have HH := hide (And.intro ho (And.intro hW hF))
  clear ho hW hF
  go_wp2
  go_ret
  obtain ⟨ho, hW, hF⟩ := unhide HH
  exact ⟨val, rfl, own_mono ho (by simp; omega), v2, hW, (RFr.alloc2 r w _ _).trans hF⟩

set_option maxHeartbeats 400000 in
set_option maxRecDepth 100000 in
theorem newReader_any (v : Value) (bs : List Int) (w : World) (h : Rd w v bs) (hb : bs.length ≤ 140737488355328) :
    Calls Tryz.prog 19 #[v] w fun e w' => ∃ r rb v2, e = .returned (.pointer (some ⟨r, 0, none⟩)) ∧ w.heap.size ≤ r ∧ w.heap.size ≤ rb ∧ Rdr w' r rb v2 bs 0 ∧ Below w.heap.size w w' := by
  have hC := hide (clone_any v bs w h hb)
  clear h
  go_enter Tryz.func19, Tryz.ntmps19
  go_wp2_with fail
  refine (unhide hC).mono ?_
  rintro e w1 ⟨v3, rfl, ho, hB⟩
  obtain ⟨a, l, c, rfl⟩ := own_shape ho
  have HO := hide (And.intro ho hB)
  clear ho hB
  go_wp2
  go_ret
  obtain ⟨ho, hB⟩ := unhide HO
  have hR := Rd.of_own ho
  have hlt := ho.lt
  refine ⟨w1.heap.size, ((Value.slice a l c).ownBlock).getD (w1.heap.size + 1), .slice a l c, rfl, hB.size, ?_, ⟨by simp, by simp, ?_, ?_, hR.keep (S := fun _ => False) ((Fr.refl _ _).alloc _) (by simp), ?_, ?_⟩, hB.alloc hB.size _⟩
  · cases a with
    | none => simp [Value.ownBlock]; have := hB.size; omega
    | some x => exact (hlt x.block rfl).1
  · simp only [World.frozen?, heap_alloc_new]; rfl
  · simp only [World.frozen?, heap_alloc_new]; rfl
  · intro b off len cap hv
    rw [hv]; rfl
  · cases a with
    | none => simp [Value.ownBlock]
    | some x => have := (hlt x.block rfl).2; simp [Value.ownBlock]; omega

set_option maxHeartbeats 400000 in
set_option maxRecDepth 100000 in
theorem newReader_at (k0 : Nat) (v : Value) (bs : List Int) (w : World) (h : Rd w v bs) (hb : bs.length ≤ 140737488355328) (hk0 : k0 < w.heap.size) :
    Calls Tryz.prog 19 #[v] w fun e w' => ∃ r rb v2, e = .returned (.pointer (some ⟨r, 0, none⟩)) ∧ w.heap.size ≤ r ∧ (rb = k0 ∨ w.heap.size ≤ rb) ∧ rb < w'.heap.size ∧ Rdr w' r rb v2 bs 0 ∧ Below w.heap.size w w' := by
  have hC := hide (clone_any v bs w h hb)
  clear h
  go_enter Tryz.func19, Tryz.ntmps19
  go_wp2_with fail
  refine (unhide hC).mono ?_
  rintro e w1 ⟨v3, rfl, ho, hB⟩
  obtain ⟨a, l, c, rfl⟩ := own_shape ho
  have HO := hide (And.intro ho hB)
  clear ho hB
  go_wp2
  go_ret
  obtain ⟨ho, hB⟩ := unhide HO
  have hR := Rd.of_own ho
  have hlt := ho.lt
  refine ⟨w1.heap.size, ((Value.slice a l c).ownBlock).getD k0, .slice a l c, rfl, hB.size, ?_, ?_, ⟨by simp, by simp, ?_, ?_, hR.keep (S := fun _ => False) ((Fr.refl _ _).alloc _) (by simp), ?_, ?_⟩, hB.alloc hB.size _⟩
  · cases a with
    | none => exact .inl rfl
    | some x => exact .inr (hlt x.block rfl).1
  · cases a with
    | none => simp [Value.ownBlock]; have := hB.size; omega
    | some x => have := (hlt x.block rfl).2; simp [Value.ownBlock]; omega
  · simp only [World.frozen?, heap_alloc_new]; rfl
  · simp only [World.frozen?, heap_alloc_new]; rfl
  · intro b off len cap hv
    rw [hv]; rfl
  · cases a with
    | none => simp [Value.ownBlock]; have := hB.size; omega
    | some x => have := (hlt x.block rfl).2; simp [Value.ownBlock]; omega

set_option maxHeartbeats 400000 in
set_option maxRecDepth 100000 in
theorem rErr_any (r : Nat) {rb : Nat} (v : Value) (bs : List Int) (e0 : Int) (w : World) (h : Rdr w r rb v bs e0) :
    Calls Tryz.prog 39 #[.pointer (some ⟨r, 0, none⟩)] w fun e w' => e = .returned (.int .i64 e0) ∧ w' = w := by
  have c1 := h.c1
  clear h
  go_enter Tryz.func39, Tryz.ntmps39
  go_wp2
  go_ret
  exact ⟨rfl, rfl⟩

/-- What End answers. -/
def rEnd (bs : List Int) (e0 : Int) : Int := if e0 = 0 then (if bs.length = 0 then 0 else 3) else e0

set_option maxHeartbeats 400000 in
set_option maxRecDepth 100000 in
theorem rEnd_any (r : Nat) {rb : Nat} (v : Value) (bs : List Int) (e0 : Int) (w : World) (h : Rdr w r rb v bs e0) :
    Calls Tryz.prog 42 #[.pointer (some ⟨r, 0, none⟩)] w fun e w' => e = .returned (.int .i64 (rEnd bs e0)) ∧ w' = w := by
  obtain ⟨a, cap, rfl⟩ := h.shape
  have c0 := h.c0
  have c1 := h.c1
  clear h
  by_cases he : e0 = 0
  · subst he
    by_cases hl : bs.length = 0
    · have e1 : rEnd bs 0 = 0 := by simp [rEnd, hl]
      rw [hl] at c0
      rw [e1]
      clear e1
      go_enter Tryz.func42, Tryz.ntmps42
      go_wp2
      go_ret
      exact ⟨rfl, rfl⟩
    · have e1 : rEnd bs 0 = 3 := by simp only [rEnd, if_true, if_neg hl]
      rw [e1]
      have q : (0 : Int) < (bs.length : Int) := by omega
      clear e1
      go_enter Tryz.func42, Tryz.ntmps42
      go_wp2
      go_ret
      exact ⟨rfl, rfl⟩
  · have e1 : rEnd bs e0 = e0 := by simp only [rEnd, if_neg he]
    rw [e1]
    have q : (e0 == 0) = false := by rw [beq_eq_false_iff_ne]; exact he
    clear e1
    go_enter Tryz.func42, Tryz.ntmps42
    go_wp2
    go_ret
    exact ⟨rfl, rfl⟩
end Go.Proofs.YtclcebdcdbcpjaaGreat
