/-
  slices.Delete of one place.
-/
import Derived.Test.YtkpngfahnpidkaaHSend
namespace Go.Proofs.Ytkpngfahnpidkaa
open Go.RowKit
set_option linter.unusedVariables false

/-- Without the element at a place. -/
def wo (sz i : Nat) (xs : List Value) : List Value := xs.take (i * sz) ++ xs.drop ((i + 1) * sz)
theorem Ro.cut {P : Program} {w : World} {sz : Nat} {g off m cap : Nat} {xs : List Value} (h : Ro w sz (.slice (some ⟨g, off, none⟩) (m + 1) cap) (m + 1) xs) (hsz : 0 < sz) {i : Nat} (hi : i ≤ m) (h1 : ∀ u ∈ xs, u.oneCell' = true)
    (t e : TypeId) (inf : TypeInfo) (ht : P.underlying t = some (.slice e)) (hif : P.info? e = some inf) (hsize : inf.size = sz) :
    ∃ w1, (∀ ty c a, (a = ⟨g, off + (i + 1) * sz, none⟩ ∨ m = i) → (Builtin.append_ #[t, t] ty #[.slice (some ⟨g, off, none⟩) i cap, .slice (some a) (m - i) c]).run P w = .ok (.slice (some ⟨g, off, none⟩) m cap) w1) ∧
      Ro w1 sz (.slice (some ⟨g, off, none⟩) m cap) m (wo sz i xs) ∧ w.grownBy w1 (some g) ∧ w1.heap.size = w.heap.size ∧ (∀ j, j < sz → (w1.cell? ⟨g, off + m * sz + j, none⟩).isSome = true ∧ w1.frozen? ⟨g, off + m * sz + j, none⟩ = false) := by
  obtain ⟨hl, h2⟩ := h
  have hro : Ro w sz (.slice (some ⟨g, off, none⟩) (m + 1) cap) (m + 1) xs := ⟨hl, h2⟩
  rcases h2 with ⟨e2, _⟩ | ⟨g', off', cap', cur, t', e2, hh, h3, h4, h5, h6⟩
  · cases e2
  cases e2
  have hcm : (m + 1) * sz ≤ cap * sz := Nat.mul_le_mul_right _ h3
  have him : (i + 1) * sz ≤ (m + 1) * sz := Nat.mul_le_mul_right _ (by omega)
  have e1 : (i + 1) * sz = i * sz + sz := Nat.succ_mul _ _
  have e3 : (m + 1) * sz = m * sz + sz := Nat.succ_mul _ _
  have e4 : (m - i) * sz = m * sz - i * sz := Nat.sub_mul _ _ _
  have him2 : i * sz ≤ m * sz := Nat.mul_le_mul_right _ hi
  have hdl : (xs.drop ((i + 1) * sz)).length = (m - i) * sz := by rw [List.length_drop, hl]; omega
  have hwl : (wo sz i xs).length = m * sz := by
    unfold wo
    rw [List.length_append, hdl, List.length_take, hl]
    omega
  refine ⟨w.setCells g (off + i * sz) (xs.drop ((i + 1) * sz)), fun ty c a ha => ?_, ?_, ?_, setCells_size _ _ _ _, fun j hj => ?_⟩
  · have hr := run_append_room_cells (P := P) w t ty e inf ht hif g off i cap a (m - i) c (xs.drop ((i + 1) * sz)) (by rw [hsize]; exact hdl) (fun j u hu => by
        have hj : j < (m - i) * sz := by have := (List.getElem?_eq_some_iff.1 hu).1; omega
        rcases ha with rfl | rfl
        case inr => simp at hj
        rw [Go.WideShapes.add_plain]
        rw [List.getElem?_drop] at hu
        rw [← hu, ← h6 _ (by omega), Nat.add_assoc]
        simp [World.cell?, hh]) (fun u hu => h1 u (List.mem_of_mem_drop hu)) (by omega) (fun j hj => by
        rw [hsize]
        have : off + i * sz + j < cur.size := by omega
        simp [World.cell?, hh]
        omega) (fun j hj => by simp [World.frozen?, hh])
    rw [hsize, show i + (m - i) = m by omega] at hr
    exact hr
  · exact (hro.sets (v := .slice (some ⟨g, off, none⟩) (m + 1) cap) rfl (o := off + i * sz) (m := m) (vs := xs.drop ((i + 1) * sz)) (ys := wo sz i xs) (by omega) (by omega) (by omega) hwl (fun j hj => by
      unfold wo
      by_cases q : i * sz ≤ j
      · rw [if_pos (by omega), List.getElem?_append_right (by rw [List.length_take, hl]; omega)]
        congr 1
        rw [List.length_take, hl]
        omega
      · rw [if_neg (by omega), List.getElem?_append_left (by rw [List.length_take, hl]; omega), List.getElem?_take, if_pos (by omega)]) (fun j hj hq => by omega)).1
  · obtain ⟨r1, r2, r3⟩ := setCells_rest g (xs.drop ((i + 1) * sz)) (off + i * sz) w
    exact ⟨r1, r2, r3, by rw [setCells_size]; exact Nat.le_refl _, fun k _ hk => setCells_other g k (fun e => hk (by rw [e])) _ _ w⟩
  · obtain ⟨cur', k1, k2, k3⟩ := setCells_block g (xs.drop ((i + 1) * sz)) (off + i * sz) w cur hh (by omega)
    constructor
    · have : off + m * sz + j < cur'.size := by omega
      simp [World.cell?, k1]
      omega
    · simp [World.frozen?, k1]
/-- .. and what lies behind is cleared. -/
theorem Ro.behind {w : World} {sz : Nat} {g off m cap : Nat} {ys : List Value} (h : Ro w sz (.slice (some ⟨g, off, none⟩) m cap) m ys) {vs : List Value} (hv : vs.length = sz) (hc : m + 1 ≤ cap) :
    Ro (w.setCells g (off + m * sz) vs) sz (.slice (some ⟨g, off, none⟩) m cap) m ys ∧ w.grownBy (w.setCells g (off + m * sz) vs) (some g) := by
  have hcm : (m + 1) * sz ≤ cap * sz := Nat.mul_le_mul_right _ hc
  have e3 : (m + 1) * sz = m * sz + sz := Nat.succ_mul _ _
  exact h.sets (v := .slice (some ⟨g, off, none⟩) m cap) rfl (by omega) (by omega) (by omega) h.1 (fun j hj => by rw [if_neg (by omega)]) (fun j hj hq => by omega)
theorem zero33 (w : World) : (zeroValue 33).run Try.prog w = .ok (.agg #[.int .i64 0, .int .i64 0]) w := by kernel_rfl
theorem zero2 (w : World) : (zeroValue 2).run Try.prog w = .ok (.int .i64 0) w := by kernel_rfl
theorem clear2 (w : World) (b o c : Nat) (hc : ∀ j, j < 2 → (w.cell? ⟨b, o + j, none⟩).isSome = true ∧ w.frozen? ⟨b, o + j, none⟩ = false) (ty : TypeId) :
    (Builtin.clear_ #[36] ty #[.slice (some ⟨b, o, none⟩) 1 c]).run Try.prog w = .ok (.tuple #[]) (w.setCells b o [.int .i64 0, .int .i64 0]) := by
  have hst := run_storeCells_cells (P := Try.prog) b o [.int .i64 0, .int .i64 0] 0 w (by simpa using fun j hj => (hc j hj).1) (by simpa using fun j hj => (hc j hj).2) (by simp [Value.oneCell'])
  simp only [Nat.add_zero] at hst
  have hz : (Builtin.zeroCells (.agg #[.int .i64 0, .int .i64 0] : Value).cells 1).toList = [.int .i64 0, .int .i64 0] := by kernel_rfl
  rw [← hz] at hst ⊢
  simp [Builtin.clear_, run_underlying Try.underlying36, hst]
theorem clear1 (w : World) (b o c : Nat) (hc : ∀ j, j < 1 → (w.cell? ⟨b, o + j, none⟩).isSome = true ∧ w.frozen? ⟨b, o + j, none⟩ = false) (ty : TypeId) :
    (Builtin.clear_ #[49] ty #[.slice (some ⟨b, o, none⟩) 1 c]).run Try.prog w = .ok (.tuple #[]) (w.setCells b o [.int .i64 0]) := by
  have hst := run_storeCells_cells (P := Try.prog) b o [.int .i64 0] 0 w (by simpa using fun j hj => (hc j hj).1) (by simpa using fun j hj => (hc j hj).2) (by simp [Value.oneCell'])
  simp only [Nat.add_zero] at hst
  have hz : (Builtin.zeroCells (.int .i64 0 : Value).cells 1).toList = [.int .i64 0] := by kernel_rfl
  rw [← hz] at hst ⊢
  simp [Builtin.clear_, run_underlying Try.underlying49, hst]
/-- append of a row's own end, in a region. -/
theorem step_cut {w : World} {ops : Array Oper} {o : Oper} {a : Act} {K : Act → World → Prop} {Q : Exit → Act → World → Prop} {E : Prop} (hgd : o.guard = none) (s x : Operand) (t : TypeId)
    (ho : o.op = .call { callee := .builtin .append, args := #[s, x], argTypes := #[t, t] }) {vs vx v : Value} {w1 : World} (hs : a.eval s = vs) (hx : a.eval x = vx) (hr : (Builtin.append_ #[t, t] o.type #[vs, vx]).run Try.prog w = .ok v w1)
    (h : K (a.put o.dst v) w1) :
    if Region.wanted o (yielded ops a.tmps) = true then Oper.wp Try.prog o a w K Q else E := by
  rw [if_pos (by simp [Region.wanted, hgd])]
  unfold Oper.wp
  simp [execOp, ho, resolve, invoke, builtin, hs, hx, hr, Result.andThen]
  exact h
theorem Try.info2 : (Try.prog.info? 2).map (fun i => (i.zero, i.size, i.bytes)) = some (some (.int .i64 0), 1, 8) := by kernel_rfl
theorem ones_flat (l : List (Int × Int)) : ∀ u ∈ flat l, u.oneCell' = true := by
  intro u hu
  simp only [flat, List.mem_flatMap] at hu
  obtain ⟨p, _, hp⟩ := hu
  simp at hp
  rcases hp with rfl | rfl <;> rfl
theorem ones_k (l : List Int) : ∀ u ∈ kcells l, u.oneCell' = true := by
  intro u hu
  simp only [kcells, List.mem_map] at hu
  obtain ⟨p, _, rfl⟩ := hu
  rfl
set_option maxRecDepth 100000 in
set_option maxHeartbeats 1600000 in
theorem delV_any {w : World} {g off m cap : Nat} {xs : List Value} (h : Ro w 2 (.slice (some ⟨g, off, none⟩) (m + 1) cap) (m + 1) xs) {i : Nat} (hi : i ≤ m) (h1 : ∀ u ∈ xs, u.oneCell' = true) :
    Calls Try.prog 33 #[.slice (some ⟨g, off, none⟩) (m + 1) cap, .int .i64 (i : Int), .int .i64 ((i : Int) + 1)] w fun e w' => e = .returned (.slice (some ⟨g, off, none⟩) m cap) ∧ Ro w' 2 (.slice (some ⟨g, off, none⟩) m cap) m (wo 2 i xs) ∧ Fr (fun k => k = g) w w' ∧ w'.heap.size = w.heap.size := by
  have hcap : m + 1 ≤ cap ∧ cap ≤ maxLen := by
    obtain ⟨a, c, e, h2, h3⟩ := h.shape
    cases e
    exact ⟨h2, h3⟩
  obtain ⟨i0, hi0, hz0, hz1, hz2⟩ := info_parts Try.info33
  obtain ⟨w1, hrun, hro, hg, hsz, hcl⟩ := (h.keep (w' := w.drew) (fun _ _ => rfl)).cut (P := Try.prog) (by decide) hi h1 36 _ i0 Try.underlying36 hi0 hz1
  have hclr := clear2 w1 g (off + m * 2) (cap - m) hcl
  obtain ⟨r1, r2⟩ := hro.behind (vs := [.int .i64 0, .int .i64 0]) rfl (by omega)
  have R := hide (And.intro r1 (And.intro ((((Fr.refl (fun k => k = g) w).drew).grown hg (fun k e => .inr (by cases e; rfl))).grown r2 (fun k e => .inr (by cases e; rfl))) (show (w1.setCells g (off + m * 2) [.int .i64 0, .int .i64 0]).heap.size = w.heap.size by rw [setCells_size, hsz]; rfl)))
  have HR : Hid (∀ ty, (Builtin.append_ #[36, 36] ty #[.slice (some ⟨g, off, none⟩) i cap, .slice (if cap = i + 1 then some ⟨g, off, none⟩ else some ⟨g, off + (i + 1) * 2, none⟩) (m - i) (cap - (i + 1))]).run Try.prog w.drew = .ok (.slice (some ⟨g, off, none⟩) m cap) w1) := fun ty => by
    by_cases hc : cap = i + 1
    · rw [if_pos hc]; exact hrun ty _ _ (.inr (by omega))
    · rw [if_neg hc]; exact hrun ty _ _ (.inl (by simp))
  unfold maxLen at hcap
  have j0 : (0 : Int) ≤ (i : Int) := by omega
  have j1 : (i : Int) ≤ (m : Int) := by omega
  have j2 : (m : Int) + 1 ≤ (cap : Int) := by omega
  have n1 : i ≤ cap := by omega
  have n2 : ¬ cap < i := by omega
  have j4 : (0 : Int) ≤ (i : Int) + 1 := by omega
  have j3 : (cap : Int) ≤ 9223372036854775807 := by omega
  clear h hrun hro hg hcl r1 r2 hz0 hz1 hz2 hi0
  go_enter Try.func33, Try.ntmps33
  go_wp2_with fail
  refine wp_region_held_drew (S := fun _ => True) (by kernel_rfl) trivial (fun hHeld => ?_)
  refine wpAnyH_take (i := 0) (oi := _) (v := .slice (some ⟨g, off, none⟩) (m + 1) cap) rfl (by kernel_rfl) (by kernel_rfl) (by kernel_rfl) (fun _ _ _ h => h) (Or.inl ⟨by rfl, (by intro w hSw; go_simp)⟩) (by assumption) ?_
  refine wpAnyH_take (i := 1) (oi := _) (v := .int .i64 (i : Int)) rfl (by kernel_rfl) (by kernel_rfl) (by kernel_rfl) (fun _ _ _ h => h) (Or.inl ⟨by rfl, (by intro w hSw; go_simp)⟩) (by assumption) ?_
  refine wpAnyH_take (i := 2) (oi := _) (v := .slice (some ⟨g, off, none⟩) i cap) rfl (by kernel_rfl) (by kernel_rfl) (by kernel_rfl) (fun _ _ _ h => h) (Or.inl ⟨by rfl, (by intro w hSw; go_simp)⟩) (by assumption) ?_
  go_simp
  refine wpAnyH_take (i := 3) (oi := _) (v := .slice (some ⟨g, off, none⟩) (m + 1) cap) rfl (by kernel_rfl) (by kernel_rfl) (by kernel_rfl) (fun _ _ _ h => h) (Or.inl ⟨by rfl, (by intro w hSw; go_simp)⟩) (by assumption) ?_
  refine wpAnyH_take (i := 4) (oi := _) (v := .int .i64 ((i : Int) + 1)) rfl (by kernel_rfl) (by kernel_rfl) (by kernel_rfl) (fun _ _ _ h => h) (Or.inl ⟨by rfl, (by intro w hSw; go_simp)⟩) (by assumption) ?_
  refine wpAnyH_take (i := 5) (oi := _) (v := .slice (if cap = i + 1 then some ⟨g, off, none⟩ else some ⟨g, off + (i + 1) * 2, none⟩) (m - i) (cap - (i + 1))) rfl (by kernel_rfl) (by kernel_rfl) (by kernel_rfl) (fun _ _ _ h => h) (Or.inl ⟨by rfl, (by intro w hSw; go_simp)⟩) (by assumption) ?_
  go_simp
  refine wpAnyH_ready (rs := [6]) (by kernel_rfl) (by simp) ?_
  refine AllReadyH.cons (o := _) rfl (fun K hK => ?_) AllReadyH.nil
  refine step_cut rfl _ _ 36 rfl rfl rfl (unhide HR _) ?_
  refine hK.out _ _ trivial (fun hHeld2 => ?_)
  clear hK K
  go_simp
  refine wpAnyH_ready (rs := [7]) (by kernel_rfl) (by simp) ?_
  refine AllReadyH.cons (o := _) rfl (fun K hK => ?_) AllReadyH.nil
  go_simp
  refine hK.out _ _ trivial (fun hHeld3 => ?_)
  clear hK K
  refine wpAnyH_done (by kernel_rfl) ?_ _
  clear hHeld hHeld2 hHeld3 HR
  generalize (if cap = i + 1 then (some ⟨g, off, none⟩ : Option Addr) else some ⟨g, off + (i + 1) * 2, none⟩) = AD
  have n3 : m ≤ cap := by omega
  have j5 : (0 : Int) ≤ (m : Int) := by omega
  have n4 : ¬ cap = m := by omega
  have j6 : ¬ ((cap : Int) = (m : Int)) := by omega
  go_wp2_with fail
  go_ret
  exact ⟨rfl, unhide R⟩
set_option maxRecDepth 100000 in
set_option maxHeartbeats 1600000 in
theorem delK_any {w : World} {g off m cap : Nat} {xs : List Value} (h : Ro w 1 (.slice (some ⟨g, off, none⟩) (m + 1) cap) (m + 1) xs) {i : Nat} (hi : i ≤ m) (h1 : ∀ u ∈ xs, u.oneCell' = true) :
    Calls Try.prog 36 #[.slice (some ⟨g, off, none⟩) (m + 1) cap, .int .i64 (i : Int), .int .i64 ((i : Int) + 1)] w fun e w' => e = .returned (.slice (some ⟨g, off, none⟩) m cap) ∧ Ro w' 1 (.slice (some ⟨g, off, none⟩) m cap) m (wo 1 i xs) ∧ Fr (fun k => k = g) w w' ∧ w'.heap.size = w.heap.size := by
  have hcap : m + 1 ≤ cap ∧ cap ≤ maxLen := by
    obtain ⟨a, c, e, h2, h3⟩ := h.shape
    cases e
    exact ⟨h2, h3⟩
  obtain ⟨i0, hi0, hz0, hz1, hz2⟩ := info_parts Try.info2
  obtain ⟨w1, hrun, hro, hg, hsz, hcl⟩ := (h.keep (w' := w.drew) (fun _ _ => rfl)).cut (P := Try.prog) (by decide) hi h1 49 _ i0 Try.underlying49 hi0 hz1
  have hclr := clear1 w1 g (off + m * 1) (cap - m) hcl
  obtain ⟨r1, r2⟩ := hro.behind (vs := [.int .i64 0]) rfl (by omega)
  have R := hide (And.intro r1 (And.intro ((((Fr.refl (fun k => k = g) w).drew).grown hg (fun k e => .inr (by cases e; rfl))).grown r2 (fun k e => .inr (by cases e; rfl))) (show (w1.setCells g (off + m * 1) [.int .i64 0]).heap.size = w.heap.size by rw [setCells_size, hsz]; rfl)))
  have HR : Hid (∀ ty, (Builtin.append_ #[49, 49] ty #[.slice (some ⟨g, off, none⟩) i cap, .slice (if cap = i + 1 then some ⟨g, off, none⟩ else some ⟨g, off + (i + 1), none⟩) (m - i) (cap - (i + 1))]).run Try.prog w.drew = .ok (.slice (some ⟨g, off, none⟩) m cap) w1) := fun ty => by
    by_cases hc : cap = i + 1
    · rw [if_pos hc]; exact hrun ty _ _ (.inr (by omega))
    · rw [if_neg hc]; exact hrun ty _ _ (.inl (by simp))
  simp only [Nat.mul_one] at hclr R
  unfold maxLen at hcap
  have j0 : (0 : Int) ≤ (i : Int) := by omega
  have j1 : (i : Int) ≤ (m : Int) := by omega
  have j2 : (m : Int) + 1 ≤ (cap : Int) := by omega
  have n1 : i ≤ cap := by omega
  have n2 : ¬ cap < i := by omega
  have j4 : (0 : Int) ≤ (i : Int) + 1 := by omega
  have j3 : (cap : Int) ≤ 9223372036854775807 := by omega
  clear h hrun hro hg hcl r1 r2 hz0 hz1 hz2 hi0
  go_enter Try.func36, Try.ntmps36
  go_wp2_with fail
  refine wp_region_held_drew (S := fun _ => True) (by kernel_rfl) trivial (fun hHeld => ?_)
  refine wpAnyH_take (i := 0) (oi := _) (v := .slice (some ⟨g, off, none⟩) (m + 1) cap) rfl (by kernel_rfl) (by kernel_rfl) (by kernel_rfl) (fun _ _ _ h => h) (Or.inl ⟨by rfl, (by intro w hSw; go_simp)⟩) (by assumption) ?_
  refine wpAnyH_take (i := 1) (oi := _) (v := .int .i64 (i : Int)) rfl (by kernel_rfl) (by kernel_rfl) (by kernel_rfl) (fun _ _ _ h => h) (Or.inl ⟨by rfl, (by intro w hSw; go_simp)⟩) (by assumption) ?_
  refine wpAnyH_take (i := 2) (oi := _) (v := .slice (some ⟨g, off, none⟩) i cap) rfl (by kernel_rfl) (by kernel_rfl) (by kernel_rfl) (fun _ _ _ h => h) (Or.inl ⟨by rfl, (by intro w hSw; go_simp)⟩) (by assumption) ?_
  go_simp
  refine wpAnyH_take (i := 3) (oi := _) (v := .slice (some ⟨g, off, none⟩) (m + 1) cap) rfl (by kernel_rfl) (by kernel_rfl) (by kernel_rfl) (fun _ _ _ h => h) (Or.inl ⟨by rfl, (by intro w hSw; go_simp)⟩) (by assumption) ?_
  refine wpAnyH_take (i := 4) (oi := _) (v := .int .i64 ((i : Int) + 1)) rfl (by kernel_rfl) (by kernel_rfl) (by kernel_rfl) (fun _ _ _ h => h) (Or.inl ⟨by rfl, (by intro w hSw; go_simp)⟩) (by assumption) ?_
  refine wpAnyH_take (i := 5) (oi := _) (v := .slice (if cap = i + 1 then some ⟨g, off, none⟩ else some ⟨g, off + (i + 1), none⟩) (m - i) (cap - (i + 1))) rfl (by kernel_rfl) (by kernel_rfl) (by kernel_rfl) (fun _ _ _ h => h) (Or.inl ⟨by rfl, (by intro w hSw; go_simp)⟩) (by assumption) ?_
  go_simp
  refine wpAnyH_ready (rs := [6]) (by kernel_rfl) (by simp) ?_
  refine AllReadyH.cons (o := _) rfl (fun K hK => ?_) AllReadyH.nil
  refine step_cut rfl _ _ 49 rfl rfl rfl (unhide HR _) ?_
  refine hK.out _ _ trivial (fun hHeld2 => ?_)
  clear hK K
  go_simp
  refine wpAnyH_ready (rs := [7]) (by kernel_rfl) (by simp) ?_
  refine AllReadyH.cons (o := _) rfl (fun K hK => ?_) AllReadyH.nil
  go_simp
  refine hK.out _ _ trivial (fun hHeld3 => ?_)
  clear hK K
  refine wpAnyH_done (by kernel_rfl) ?_ _
  clear hHeld hHeld2 hHeld3 HR
  generalize (if cap = i + 1 then (some ⟨g, off, none⟩ : Option Addr) else some ⟨g, off + (i + 1), none⟩) = AD
  have n3 : m ≤ cap := by omega
  have j5 : (0 : Int) ≤ (m : Int) := by omega
  have n4 : ¬ cap = m := by omega
  have j6 : ¬ ((cap : Int) = (m : Int)) := by omega
  go_wp2_with fail
  go_ret
  exact ⟨rfl, unhide R⟩
end Go.Proofs.Ytkpngfahnpidkaa
