/-
  What each kind is and costs; which object a value names.
-/
import Derived.Test.YtbnjfofkpagblaaHNew
namespace Go.Proofs.Ytbnjfofkpagblaa.hp
open Go.RowKit
set_option linter.unusedVariables false

/-- The object that a value names. -/
def nm (os : List OD) (k n : Int) : Option OD := if 0 ≤ n then (os[n.toNat]?).filter (fun o => decide ((o.k : Int) = k)) else none
/-- .. as an interface. -/
def nface : Option OD → Value
  | some o => o.face
  | none => .nilIface
theorem nm_some {os : List OD} {k n : Int} {o : OD} (h : nm os k n = some o) : 0 ≤ n ∧ os[n.toNat]? = some o ∧ (o.k : Int) = k := by
  unfold nm at h
  by_cases c : 0 ≤ n
  · rw [if_pos c] at h
    obtain ⟨h1, h2⟩ := Option.filter_eq_some_iff.1 h
    exact ⟨c, h1, by simpa using h2⟩
  · rw [if_neg c] at h; cases h
theorem two_new (w : World) (u v : Value) (e : TypeId) : (w.alloc (.cells #[u, v] e)).cell? ⟨w.heap.size, 0, none⟩ = some u ∧ (w.alloc (.cells #[u, v] e)).cell? ⟨w.heap.size, 1, none⟩ = some v := by
  have hg := heap_alloc_new w (.cells #[u, v] e)
  exact ⟨by simp only [World.cell?, hg]; rfl, by simp only [World.cell?, hg]; rfl⟩
set_option maxRecDepth 100000 in
set_option maxHeartbeats 800000 in
theorem kind6_any (w : World) (p : Value) : Calls Try.prog 83 #[p] w fun e w' => e = .returned (.int .i64 6) ∧ w' = w := by
  go_enter Try.func83, Try.ntmps83
  go_wp2
  go_ret
  exact ⟨rfl, rfl⟩
set_option maxRecDepth 100000 in
set_option maxHeartbeats 800000 in
theorem kind7_any (w : World) (p : Value) : Calls Try.prog 87 #[p] w fun e w' => e = .returned (.int .i64 7) ∧ w' = w := by
  go_enter Try.func87, Try.ntmps87
  go_wp2
  go_ret
  exact ⟨rfl, rfl⟩
set_option maxRecDepth 100000 in
set_option maxHeartbeats 800000 in
theorem kind8_any (w : World) (p : Value) : Calls Try.prog 91 #[p] w fun e w' => e = .returned (.int .i64 8) ∧ w' = w := by
  go_enter Try.func91, Try.ntmps91
  go_wp2
  go_ret
  exact ⟨rfl, rfl⟩
set_option maxRecDepth 100000 in
set_option maxHeartbeats 800000 in
theorem kind9_any (w : World) (p : Value) : Calls Try.prog 95 #[p] w fun e w' => e = .returned (.int .i64 9) ∧ w' = w := by
  go_enter Try.func95, Try.ntmps95
  go_wp2
  go_ret
  exact ⟨rfl, rfl⟩
set_option maxRecDepth 100000 in
set_option maxHeartbeats 1600000 in
theorem named_at6 {w : World} {h : Nat} {bud sp : Int} {ov : Value} {os : List OD} (H : Hp w h bud sp ov os) (kk : Int) (n : Nat) {o : OD} (ho : os[n]? = some o) (hk : o.k = 6) (hL : os.length < 9223372036854775808) :
    Calls Try.prog 33 #[.pointer (some ⟨h, 0, none⟩), .agg #[.int .i64 kk, .int .i64 (n : Int)]] w fun e w' => e = .returned (if kk = 6 then o.face else .nilIface) ∧ Below w.heap.size w w' := by
  have hn : n < os.length := (List.getElem?_eq_some_iff.1 ho).1
  have hB : Below w.heap.size w (w.alloc (.cells #[.int .i64 kk, .int .i64 (n : Int)] 39)) := (Below.refl _ _).alloc (Nat.le_refl _) _
  have H1 := H.below hB
  obtain ⟨g, off, cap, ev, hc1, hc2, hg, hcell⟩ := H1.row.full (by omega)
  have hcn := hcell n (by omega)
  rw [List.getElem?_map, ho] at hcn
  have ef : o.face = .iface 81 (.pointer (some ⟨o.b, 0, none⟩)) := by unfold OD.face; rw [hk]; rfl
  simp only [Option.map_some, ef] at hcn
  have hc := H1.c2
  rw [ev] at hc
  have hl := H.hlt
  have hlA := H1.hlt
  obtain ⟨b0, b1⟩ := two_new w (.int .i64 kk) (.int .i64 (n : Int)) 33
  have d0 : decide (((n : Nat) : Int) < 0) = false := decide_eq_false (by omega)
  have i1 : ((n : Nat) : Int) < (os.length : Int) := by omega
  have i0 : (0 : Int) ≤ ((n : Nat) : Int) := by omega
  have d1 : decide (((n : Nat) : Int) ≥ (os.length : Int)) = false := decide_eq_false (by omega)
  rw [ef]
  have HB := hide hB
  have hzz : ((w.alloc (.cells #[.int .i64 kk, .int .i64 (n : Int)] 39))).heap.size = w.heap.size + 1 := by simp
  clear H H1 ev hcell ho hk ef hB
  generalize os.length = L at *
  by_cases hq : kk = 6
  · subst hq
    rw [if_pos rfl]
    go_enter Try.func33, Try.ntmps33
    go_wp2
    go_quiet (fail)
    go_wp2
    go_quiet (fail)
    go_wp2
    go_quiet ((first | (go_invoke; go_simp; exact (kind6_any _ _).mono fun _ _ ⟨he, hm⟩ => ⟨he, _, hm⟩) | (go_invoke; go_simp; trace_state; fail)))
    go_wp2
    go_ret
    exact ⟨rfl, (((unhide HB).trans ((Fr.drewN (S := fun _ => False) _).below (by simp) (fun _ _ e => e))).trans ((Fr.drewN (S := fun _ => False) _).below (by simp) (fun _ _ e => e))).trans ((Fr.drewN (S := fun _ => False) _).below (by simp) (fun _ _ e => e))⟩
  · rw [if_neg hq]
    have d2 : ((6 : Int) == kk) = false := by simp; omega
    have d3 : decide ((6 : Int) = kk) = false := decide_eq_false (by omega)
    go_enter Try.func33, Try.ntmps33
    go_wp2
    go_quiet (fail)
    go_wp2
    go_quiet (fail)
    go_wp2
    go_quiet ((first | (go_invoke; go_simp; exact (kind6_any _ _).mono fun _ _ ⟨he, hm⟩ => ⟨he, _, hm⟩) | (go_invoke; go_simp; trace_state; fail)))
    go_wp2
    go_ret
    exact ⟨rfl, (((unhide HB).trans ((Fr.drewN (S := fun _ => False) _).below (by simp) (fun _ _ e => e))).trans ((Fr.drewN (S := fun _ => False) _).below (by simp) (fun _ _ e => e))).trans ((Fr.drewN (S := fun _ => False) _).below (by simp) (fun _ _ e => e))⟩
set_option maxRecDepth 100000 in
set_option maxHeartbeats 1600000 in
theorem named_at7 {w : World} {h : Nat} {bud sp : Int} {ov : Value} {os : List OD} (H : Hp w h bud sp ov os) (kk : Int) (n : Nat) {o : OD} (ho : os[n]? = some o) (hk : o.k = 7) (hL : os.length < 9223372036854775808) :
    Calls Try.prog 33 #[.pointer (some ⟨h, 0, none⟩), .agg #[.int .i64 kk, .int .i64 (n : Int)]] w fun e w' => e = .returned (if kk = 7 then o.face else .nilIface) ∧ Below w.heap.size w w' := by
  have hn : n < os.length := (List.getElem?_eq_some_iff.1 ho).1
  have hB : Below w.heap.size w (w.alloc (.cells #[.int .i64 kk, .int .i64 (n : Int)] 39)) := (Below.refl _ _).alloc (Nat.le_refl _) _
  have H1 := H.below hB
  obtain ⟨g, off, cap, ev, hc1, hc2, hg, hcell⟩ := H1.row.full (by omega)
  have hcn := hcell n (by omega)
  rw [List.getElem?_map, ho] at hcn
  have ef : o.face = .iface 84 (.pointer (some ⟨o.b, 0, none⟩)) := by unfold OD.face; rw [hk]; rfl
  simp only [Option.map_some, ef] at hcn
  have hc := H1.c2
  rw [ev] at hc
  have hl := H.hlt
  have hlA := H1.hlt
  obtain ⟨b0, b1⟩ := two_new w (.int .i64 kk) (.int .i64 (n : Int)) 33
  have d0 : decide (((n : Nat) : Int) < 0) = false := decide_eq_false (by omega)
  have i1 : ((n : Nat) : Int) < (os.length : Int) := by omega
  have i0 : (0 : Int) ≤ ((n : Nat) : Int) := by omega
  have d1 : decide (((n : Nat) : Int) ≥ (os.length : Int)) = false := decide_eq_false (by omega)
  rw [ef]
  have HB := hide hB
  have hzz : ((w.alloc (.cells #[.int .i64 kk, .int .i64 (n : Int)] 39))).heap.size = w.heap.size + 1 := by simp
  clear H H1 ev hcell ho hk ef hB
  generalize os.length = L at *
  by_cases hq : kk = 7
  · subst hq
    rw [if_pos rfl]
    go_enter Try.func33, Try.ntmps33
    go_wp2
    go_quiet (fail)
    go_wp2
    go_quiet (fail)
    go_wp2
    go_quiet ((first | (go_invoke; go_simp; exact (kind7_any _ _).mono fun _ _ ⟨he, hm⟩ => ⟨he, _, hm⟩) | (go_invoke; go_simp; trace_state; fail)))
    go_wp2
    go_ret
    exact ⟨rfl, (((unhide HB).trans ((Fr.drewN (S := fun _ => False) _).below (by simp) (fun _ _ e => e))).trans ((Fr.drewN (S := fun _ => False) _).below (by simp) (fun _ _ e => e))).trans ((Fr.drewN (S := fun _ => False) _).below (by simp) (fun _ _ e => e))⟩
  · rw [if_neg hq]
    have d2 : ((7 : Int) == kk) = false := by simp; omega
    have d3 : decide ((7 : Int) = kk) = false := decide_eq_false (by omega)
    go_enter Try.func33, Try.ntmps33
    go_wp2
    go_quiet (fail)
    go_wp2
    go_quiet (fail)
    go_wp2
    go_quiet ((first | (go_invoke; go_simp; exact (kind7_any _ _).mono fun _ _ ⟨he, hm⟩ => ⟨he, _, hm⟩) | (go_invoke; go_simp; trace_state; fail)))
    go_wp2
    go_ret
    exact ⟨rfl, (((unhide HB).trans ((Fr.drewN (S := fun _ => False) _).below (by simp) (fun _ _ e => e))).trans ((Fr.drewN (S := fun _ => False) _).below (by simp) (fun _ _ e => e))).trans ((Fr.drewN (S := fun _ => False) _).below (by simp) (fun _ _ e => e))⟩
set_option maxRecDepth 100000 in
set_option maxHeartbeats 1600000 in
theorem named_at8 {w : World} {h : Nat} {bud sp : Int} {ov : Value} {os : List OD} (H : Hp w h bud sp ov os) (kk : Int) (n : Nat) {o : OD} (ho : os[n]? = some o) (hk : o.k = 8) (hL : os.length < 9223372036854775808) :
    Calls Try.prog 33 #[.pointer (some ⟨h, 0, none⟩), .agg #[.int .i64 kk, .int .i64 (n : Int)]] w fun e w' => e = .returned (if kk = 8 then o.face else .nilIface) ∧ Below w.heap.size w w' := by
  have hn : n < os.length := (List.getElem?_eq_some_iff.1 ho).1
  have hB : Below w.heap.size w (w.alloc (.cells #[.int .i64 kk, .int .i64 (n : Int)] 39)) := (Below.refl _ _).alloc (Nat.le_refl _) _
  have H1 := H.below hB
  obtain ⟨g, off, cap, ev, hc1, hc2, hg, hcell⟩ := H1.row.full (by omega)
  have hcn := hcell n (by omega)
  rw [List.getElem?_map, ho] at hcn
  have ef : o.face = .iface 87 (.pointer (some ⟨o.b, 0, none⟩)) := by unfold OD.face; rw [hk]; rfl
  simp only [Option.map_some, ef] at hcn
  have hc := H1.c2
  rw [ev] at hc
  have hl := H.hlt
  have hlA := H1.hlt
  obtain ⟨b0, b1⟩ := two_new w (.int .i64 kk) (.int .i64 (n : Int)) 33
  have d0 : decide (((n : Nat) : Int) < 0) = false := decide_eq_false (by omega)
  have i1 : ((n : Nat) : Int) < (os.length : Int) := by omega
  have i0 : (0 : Int) ≤ ((n : Nat) : Int) := by omega
  have d1 : decide (((n : Nat) : Int) ≥ (os.length : Int)) = false := decide_eq_false (by omega)
  rw [ef]
  have HB := hide hB
  have hzz : ((w.alloc (.cells #[.int .i64 kk, .int .i64 (n : Int)] 39))).heap.size = w.heap.size + 1 := by simp
  clear H H1 ev hcell ho hk ef hB
  generalize os.length = L at *
  by_cases hq : kk = 8
  · subst hq
    rw [if_pos rfl]
    go_enter Try.func33, Try.ntmps33
    go_wp2
    go_quiet (fail)
    go_wp2
    go_quiet (fail)
    go_wp2
    go_quiet ((first | (go_invoke; go_simp; exact (kind8_any _ _).mono fun _ _ ⟨he, hm⟩ => ⟨he, _, hm⟩) | (go_invoke; go_simp; trace_state; fail)))
    go_wp2
    go_ret
    exact ⟨rfl, (((unhide HB).trans ((Fr.drewN (S := fun _ => False) _).below (by simp) (fun _ _ e => e))).trans ((Fr.drewN (S := fun _ => False) _).below (by simp) (fun _ _ e => e))).trans ((Fr.drewN (S := fun _ => False) _).below (by simp) (fun _ _ e => e))⟩
  · rw [if_neg hq]
    have d2 : ((8 : Int) == kk) = false := by simp; omega
    have d3 : decide ((8 : Int) = kk) = false := decide_eq_false (by omega)
    go_enter Try.func33, Try.ntmps33
    go_wp2
    go_quiet (fail)
    go_wp2
    go_quiet (fail)
    go_wp2
    go_quiet ((first | (go_invoke; go_simp; exact (kind8_any _ _).mono fun _ _ ⟨he, hm⟩ => ⟨he, _, hm⟩) | (go_invoke; go_simp; trace_state; fail)))
    go_wp2
    go_ret
    exact ⟨rfl, (((unhide HB).trans ((Fr.drewN (S := fun _ => False) _).below (by simp) (fun _ _ e => e))).trans ((Fr.drewN (S := fun _ => False) _).below (by simp) (fun _ _ e => e))).trans ((Fr.drewN (S := fun _ => False) _).below (by simp) (fun _ _ e => e))⟩
set_option maxRecDepth 100000 in
set_option maxHeartbeats 1600000 in
theorem named_at9 {w : World} {h : Nat} {bud sp : Int} {ov : Value} {os : List OD} (H : Hp w h bud sp ov os) (kk : Int) (n : Nat) {o : OD} (ho : os[n]? = some o) (hk : o.k = 9) (hL : os.length < 9223372036854775808) :
    Calls Try.prog 33 #[.pointer (some ⟨h, 0, none⟩), .agg #[.int .i64 kk, .int .i64 (n : Int)]] w fun e w' => e = .returned (if kk = 9 then o.face else .nilIface) ∧ Below w.heap.size w w' := by
  have hn : n < os.length := (List.getElem?_eq_some_iff.1 ho).1
  have hB : Below w.heap.size w (w.alloc (.cells #[.int .i64 kk, .int .i64 (n : Int)] 39)) := (Below.refl _ _).alloc (Nat.le_refl _) _
  have H1 := H.below hB
  obtain ⟨g, off, cap, ev, hc1, hc2, hg, hcell⟩ := H1.row.full (by omega)
  have hcn := hcell n (by omega)
  rw [List.getElem?_map, ho] at hcn
  have ef : o.face = .iface 90 (.pointer (some ⟨o.b, 0, none⟩)) := by unfold OD.face; rw [hk]; rfl
  simp only [Option.map_some, ef] at hcn
  have hc := H1.c2
  rw [ev] at hc
  have hl := H.hlt
  have hlA := H1.hlt
  obtain ⟨b0, b1⟩ := two_new w (.int .i64 kk) (.int .i64 (n : Int)) 33
  have d0 : decide (((n : Nat) : Int) < 0) = false := decide_eq_false (by omega)
  have i1 : ((n : Nat) : Int) < (os.length : Int) := by omega
  have i0 : (0 : Int) ≤ ((n : Nat) : Int) := by omega
  have d1 : decide (((n : Nat) : Int) ≥ (os.length : Int)) = false := decide_eq_false (by omega)
  rw [ef]
  have HB := hide hB
  have hzz : ((w.alloc (.cells #[.int .i64 kk, .int .i64 (n : Int)] 39))).heap.size = w.heap.size + 1 := by simp
  clear H H1 ev hcell ho hk ef hB
  generalize os.length = L at *
  by_cases hq : kk = 9
  · subst hq
    rw [if_pos rfl]
    go_enter Try.func33, Try.ntmps33
    go_wp2
    go_quiet (fail)
    go_wp2
    go_quiet (fail)
    go_wp2
    go_quiet ((first | (go_invoke; go_simp; exact (kind9_any _ _).mono fun _ _ ⟨he, hm⟩ => ⟨he, _, hm⟩) | (go_invoke; go_simp; trace_state; fail)))
    go_wp2
    go_ret
    exact ⟨rfl, (((unhide HB).trans ((Fr.drewN (S := fun _ => False) _).below (by simp) (fun _ _ e => e))).trans ((Fr.drewN (S := fun _ => False) _).below (by simp) (fun _ _ e => e))).trans ((Fr.drewN (S := fun _ => False) _).below (by simp) (fun _ _ e => e))⟩
  · rw [if_neg hq]
    have d2 : ((9 : Int) == kk) = false := by simp; omega
    have d3 : decide ((9 : Int) = kk) = false := decide_eq_false (by omega)
    go_enter Try.func33, Try.ntmps33
    go_wp2
    go_quiet (fail)
    go_wp2
    go_quiet (fail)
    go_wp2
    go_quiet ((first | (go_invoke; go_simp; exact (kind9_any _ _).mono fun _ _ ⟨he, hm⟩ => ⟨he, _, hm⟩) | (go_invoke; go_simp; trace_state; fail)))
    go_wp2
    go_ret
    exact ⟨rfl, (((unhide HB).trans ((Fr.drewN (S := fun _ => False) _).below (by simp) (fun _ _ e => e))).trans ((Fr.drewN (S := fun _ => False) _).below (by simp) (fun _ _ e => e))).trans ((Fr.drewN (S := fun _ => False) _).below (by simp) (fun _ _ e => e))⟩
set_option maxRecDepth 100000 in
set_option maxHeartbeats 1600000 in
theorem named_out {w : World} {h : Nat} {bud sp : Int} {ov : Value} {os : List OD} (H : Hp w h bud sp ov os) (kk n : Int) (hn : n < 0 ∨ (os.length : Int) ≤ n) :
    Calls Try.prog 33 #[.pointer (some ⟨h, 0, none⟩), .agg #[.int .i64 kk, .int .i64 n]] w fun e w' => e = .returned .nilIface ∧ Below w.heap.size w w' := by
  have hB : Below w.heap.size w (w.alloc (.cells #[.int .i64 kk, .int .i64 n] 39)) := (Below.refl _ _).alloc (Nat.le_refl _) _
  have H1 := H.below hB
  obtain ⟨a, cap, ev, hc1, hc2⟩ := H1.row.shape
  have hc := H1.c2
  rw [ev] at hc
  have hl := H.hlt
  have hlA := H1.hlt
  obtain ⟨b0, b1⟩ := two_new w (.int .i64 kk) (.int .i64 n) 33
  have HB := hide hB
  clear H H1 ev hB
  generalize os.length = L at *
  by_cases h0 : n < 0
  · have d0 : decide (n < 0) = true := decide_eq_true h0
    clear hn h0
    go_enter Try.func33, Try.ntmps33
    go_wp2
    go_quiet (fail)
    go_wp2
    go_ret
    exact ⟨rfl, (unhide HB).trans ((Fr.drewN (S := fun _ => False) _).below (by simp) (fun _ _ e => e))⟩
  · have d0 : decide (n < 0) = false := decide_eq_false h0
    have d1 : decide (n ≥ (L : Int)) = true := decide_eq_true (by omega)
    have i1 : (L : Int) ≤ n := by omega
    clear hn h0
    go_enter Try.func33, Try.ntmps33
    go_wp2
    go_quiet (fail)
    go_wp2
    go_ret
    exact ⟨rfl, (unhide HB).trans ((Fr.drewN (S := fun _ => False) _).below (by simp) (fun _ _ e => e))⟩
/-- named. -/
theorem named_any {w : World} {h : Nat} {bud sp : Int} {ov : Value} {os : List OD} (H : Hp w h bud sp ov os) (kk n : Int) :
    Calls Try.prog 33 #[.pointer (some ⟨h, 0, none⟩), .agg #[.int .i64 kk, .int .i64 n]] w fun e w' => e = .returned (nface (nm os kk n)) ∧ Below w.heap.size w w' := by
  obtain ⟨_, cap, _, hc1, hc2⟩ := H.row.shape
  have hL : os.length < 9223372036854775808 := by unfold maxLen at hc2; omega
  by_cases hn : n < 0 ∨ (os.length : Int) ≤ n
  · have : nm os kk n = none := by
      unfold nm
      by_cases c : 0 ≤ n
      · rw [if_pos c, List.getElem?_eq_none (by omega)]; rfl
      · rw [if_neg c]
    rw [this]
    exact named_out H kk n hn
  · have h0 : 0 ≤ n := by omega
    obtain ⟨m, rfl⟩ : ∃ m : Nat, n = (m : Int) := ⟨n.toNat, by omega⟩
    have hm : m < os.length := by omega
    have ho : os[m]? = some os[m] := List.getElem?_eq_getElem hm
    have hk := (H.ok m _ ho).kind
    have e : nface (nm os kk (m : Int)) = if kk = (os[m].k : Int) then os[m].face else .nilIface := by
      unfold nm
      rw [if_pos (by omega), Int.toNat_natCast, ho]
      by_cases c : kk = (os[m].k : Int)
      · rw [if_pos c]; simp [Option.filter, c, nface]
      · rw [if_neg c]
        have c2 : ¬ ((os[m].k : Int) = kk) := fun q => c q.symm
        simp [Option.filter, c2, nface]
    rw [e]
    generalize hoo : os[m] = o at ho hk ⊢
    rcases (by omega : o.k = 6 ∨ o.k = 7 ∨ o.k = 8 ∨ o.k = 9) with q | q | q | q
    · rw [q]; exact named_at6 H kk m ho q hL
    · rw [q]; exact named_at7 H kk m ho q hL
    · rw [q]; exact named_at8 H kk m ho q hL
    · rw [q]; exact named_at9 H kk m ho q hL
end Go.Proofs.Ytbnjfofkpagblaa.hp
