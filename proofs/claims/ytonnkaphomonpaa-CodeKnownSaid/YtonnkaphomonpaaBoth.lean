/-
  There and back: the words; SameCode.
-/
import Derived.Test.YtonnkaphomonpaaJoins
namespace Go.Proofs.Ytonnkaphomonpaa
open Go.RowKit
set_option linter.unusedVariables false

/-- An unsigned number as a signed one. -/
def sI (x : Nat) : Int := wrap64 (x : Int)
/-- The operand of a kind, out of bytes. -/
def opR (k : Nat) (t : List Int) : Except Int (Int × List Int) :=
  if k = 0 then .ok (0, t) else match unum 0 0 t with
    | .error e => .error e
    | .ok (x, t') => .ok (if k = 1 then unfoldI x else sI x, t')
/-- One instruction, out of bytes. -/
def rd1 (b : Int) (t : List Int) : Except Int ((Int × Int) × List Int) :=
  if isOp b then match opR (kd b.toNat) t with
    | .error e => .error e
    | .ok (a, t') => if okB b a then .ok ((b, a), t') else .error 7
  else .error 7

def ReadPost (r rb : Nat) (w : World) (o : Except Int (Int × List Int)) (e : Ending) (w' : World) : Prop :=
  match o with
  | .ok (a, t) => e = .returned (.int .i64 a) ∧ ∃ v2, Rdr w' r rb v2 t 0 ∧ RFr r w w'
  | .error k => ∃ x, e = .returned (.int .i64 x) ∧ ∃ v2 t, Rdr w' r rb v2 t k ∧ RFr r w w'

set_option maxRecDepth 100000 in
set_option maxHeartbeats 4000000 in
theorem read_any (k : Nat) (r : Nat) {rb : Nat} (v : Value) (bs : List Int) (w : World) (h : Rdr w r rb v bs 0) (hB : BOk bs) :
    Calls Try.prog (rF k) #[.pointer (some ⟨r, 0, none⟩)] w fun e w' => ReadPost r rb w (opR k bs) e w' := by
  by_cases h0 : k = 0
  · subst h0
    have e : opR 0 bs = .ok (0, bs) := rfl
    rw [e]
    have hh := hide h
    clear e h hB
    show Calls Try.prog 55 _ _ _
    go_enter Try.func55, Try.ntmps55
    go_wp2
    go_ret
    exact ⟨rfl, v, unhide hh, RFr.refl _ _⟩
  · by_cases h1 : k = 1
    · subst h1
      refine (rInt_any r v bs 0 w h hB).mono ?_
      rintro e w' ⟨he, v2, hR, hF⟩
      have eo : opR 1 bs = match unum 0 0 bs with | .error e => .error e | .ok (x, t') => .ok (unfoldI x, t') := by simp [opR]
      rw [eo]
      cases hu : unum 0 0 bs with
      | error k =>
        rw [hu] at he hR
        exact ⟨0, he, v2, _, hR, hF⟩
      | ok q =>
        rw [hu] at he hR
        exact ⟨he, v2, hR, hF⟩
    · have e1 : rF k = 60 := by unfold rF; rw [if_neg h0, if_neg h1]
      have eo : opR k bs = match unum 0 0 bs with | .error e => .error e | .ok (x, t') => .ok (sI x, t') := by simp [opR, h0, h1]
      rw [e1, eo]
      have h1 := rUint_any r v bs 0 w h hB
      cases hu : unum 0 0 bs with
      | error kk =>
        rw [hu] at h1
        have H1 : Hid (Calls Try.prog 61 #[.pointer (some ⟨r, 0, none⟩)] w fun e w' => e = .returned (.int .u64 0) ∧ ∃ v2, Rdr w' r rb v2 bs kk ∧ RFr r w w') := h1
        clear e1 eo h0 h1 h hB hu
        go_enter Try.func60, Try.ntmps60
        go_wp2_with fail
        refine (unhide H1).mono ?_
        rintro e w' ⟨rfl, v2, hR, hF⟩
        have HR := hide hR
        have HF := hide hF
        clear hR hF
        go_wp2_with fail
        go_ret
        exact ⟨_, rfl, v2, _, unhide HR, unhide HF⟩
      | ok q =>
        obtain ⟨x, t⟩ := q
        rw [hu] at h1
        have H1 : Hid (Calls Try.prog 61 #[.pointer (some ⟨r, 0, none⟩)] w fun e w' => e = .returned (.int .u64 (x : Int)) ∧ ∃ v2, Rdr w' r rb v2 t 0 ∧ RFr r w w') := h1
        clear e1 eo h0 h1 h hB hu
        go_enter Try.func60, Try.ntmps60
        go_wp2_with fail
        refine (unhide H1).mono ?_
        rintro e w' ⟨rfl, v2, hR, hF⟩
        have HR := hide hR
        have HF := hide hF
        clear hR hF
        go_wp2_with fail
        go_ret
        exact ⟨rfl, v2, unhide HR, unhide HF⟩

theorem opR_err {k : Nat} {t : List Int} {e : Int} (h : opR k t = .error e) : e ≠ 0 := by
  unfold opR at h
  split at h
  · cases h
  · split at h
    · rename_i e' hu
      cases h
      exact unum_err _ _ _ _ hu
    · cases h
/-- A block of two cells. -/
structure Bk (W : World) (g : Nat) : Prop where
  ex : ∃ x y, W.heap[g]? = some (.cells #[x, y] 24 (0, 0))
theorem Bk.fr {S : Nat → Prop} {w w' : World} {g : Nat} (h : Bk w g) (f : Fr S w w') (hn : ¬ S g) : Bk w' g := by
  obtain ⟨x, y, e⟩ := h.ex
  exact ⟨x, y, by rw [f.block g (Array.getElem?_eq_some_iff.1 e).1 hn]; exact e⟩
theorem Bk.below {w w' : World} {g : Nat} (h : Bk w g) (f : Below w.heap.size w w') : Bk w' g := h.fr (Fr.of_below (S := fun _ => False) f) (by simp)
theorem Bk.c0 {w : World} {g : Nat} (h : Bk w g) : ∃ x, w.cell? ⟨g, 0, none⟩ = some x := by
  obtain ⟨x, y, e⟩ := h.ex
  exact ⟨x, by simp [World.cell?, e]⟩
theorem Bk.c1 {w : World} {g : Nat} (h : Bk w g) : ∃ x, w.cell? ⟨g, 1, none⟩ = some x := by
  obtain ⟨x, y, e⟩ := h.ex
  exact ⟨y, by simp [World.cell?, e]⟩
theorem Bk.f0 {w : World} {g : Nat} (h : Bk w g) : w.frozen? ⟨g, 0, none⟩ = false := by
  obtain ⟨x, y, e⟩ := h.ex
  simp [World.frozen?, e]
theorem Bk.f1 {w : World} {g : Nat} (h : Bk w g) : w.frozen? ⟨g, 1, none⟩ = false := by
  obtain ⟨x, y, e⟩ := h.ex
  simp [World.frozen?, e]
theorem Bk.lt {w : World} {g : Nat} (h : Bk w g) : g < w.heap.size := by
  obtain ⟨x, y, e⟩ := h.ex
  exact (Array.getElem?_eq_some_iff.1 e).1
theorem Bk.new (w : World) (x y : Value) : Bk (w.alloc (.cells #[x, y] 24)) w.heap.size := ⟨x, y, heap_alloc_new w _⟩

def NextPost (r rb : Nat) (w : World) (o : Except Int ((Int × Int) × List Int)) (e : Ending) (w' : World) : Prop :=
  match o with
  | .ok ((op, a), t) => e = .returned (.tuple #[.agg #[.int .i64 op, .int .i64 a], .int .i64 0]) ∧ ∃ v2, Rdr w' r rb v2 t 0 ∧ RFr r w w'
  | .error k => ∃ x y, e = .returned (.tuple #[.agg #[.int .i64 x, .int .i64 y], .int .i64 k]) ∧ k ≠ 0 ∧ RFr r w w'

set_option maxRecDepth 100000 in
set_option maxHeartbeats 4000000 in
theorem next_any (r : Nat) {rb : Nat} (v : Value) (b : Int) (t : List Int) (w : World) (h : Rdr w r rb v (b :: t) 0) (hB : BOk (b :: t)) (hrb : rb < w.heap.size) :
    Calls Try.prog 27 #[.pointer (some ⟨r, 0, none⟩)] w fun e w' => NextPost r rb w (rd1 b t) e w' := by
  have hr := h.lt
  have h1 : Rdr (w.alloc (.cells #[.int .i64 0, .int .i64 0] 24)) r rb v (b :: t) 0 := h.keep (S := fun _ => False) ((Fr.refl _ w).alloc _) (by simp) (by simp)
  have H1 := hide (rByte_any r v (b :: t) 0 _ h1)
  have HBt : Hid (BOk t) := fun x hx => hB x (List.mem_cons_of_mem _ hx)
  have hb0 := hB b (List.mem_cons_self ..)
  have HO := hide operand_any
  have HF := hide formOf_any
  have F0 : Hid (Fr (fun k => k = r) w (w.alloc (.cells #[.int .i64 0, .int .i64 0] 24))) := (Fr.refl _ w).alloc _
  have Q0 := hide (Bk.new w (.int .i64 0) (.int .i64 0))
  have HRB := hide hrb
  obtain ⟨n, rfl⟩ : ∃ n : Nat, b = n := ⟨b.toNat, by omega⟩
  obtain ⟨o, ho⟩ : ∃ o, Hid (o = rd1 n t) := ⟨_, rfl⟩
  rw [← unhide ho]
  clear h h1 hB hrb
  go_enter Try.func27, Try.ntmps27
  go_wp2_with fail
  refine (unhide H1).mono ?_
  rintro e w1 ⟨he, v1, hR1, hF1⟩
  have he' : e = .returned (.int .u8 (n : Int)) := he
  have D1 : Hid (Rdr w1 r rb v1 t 0) := hR1
  have F1 := hide ((unhide F0).trans hF1)
  have Q1 := hide ((unhide Q0).fr hF1 (by omega))
  subst he'
  clear he hR1 hF1 H1 F0 Q0
  go_wp2_with fail
  refine (unhide HO _ _).mono ?_
  rintro e w2 ⟨rfl, hb2⟩
  have D2 := hide ((unhide D1).keep (S := fun _ => False) (Fr.of_below hb2) (by simp) (by simp))
  have F2 := hide ((unhide F1).trans (Fr.of_below hb2))
  have q2 := (unhide Q1).below hb2
  obtain ⟨x0, c0⟩ := q2.c0
  obtain ⟨x1, c1⟩ := q2.c1
  have f0 := q2.f0
  have f1 := q2.f1
  have Q2 := hide q2
  clear hb2 D1 F1 Q1 q2
  by_cases hop : 0 ≤ (n : Int) ∧ (n : Int) < 67
  · have hn : n < 67 := by omega
    rw [kdI_nat hn, isOp_nat hn]
    have eO : Hid (rd1 n t = match opR (kd n) t with | .error e => .error e | .ok (a, t') => if okB n a then .ok (((n : Int), a), t') else .error 7) := by
      unfold Hid rd1; rw [isOp_nat hn]; rfl
    have hent := enterR (kd n)
    have hf1 : ∀ (a b : Value) (w : World), (Instr.field 68 (.agg #[a, b]) 1).run Try.prog w = .ok b w := fun a b w => by kernel_rfl
    clear c0 c1 f0 f1
    go_wp2_with fail
    refine (unhide HF _ _).mono ?_
    rintro e w3 ⟨rfl, hb3⟩
    have HRd := hide (read_any (kd n) r v1 t w3 ((unhide D2).keep (S := fun _ => False) (Fr.of_below hb3) (by simp) (by simp)) (unhide HBt))
    have F3 := hide ((unhide F2).trans (Fr.of_below hb3))
    have Q3 := hide ((unhide Q2).below hb3)
    clear hb3 D2 F2 Q2
    go_wp2_with fail
    refine (unhide HRd).mono ?_
    intro e w4 hp
    cases hr4 : opR (kd n) t with
    | error er =>
      rw [hr4] at hp
      obtain ⟨x, rfl, v4, t4, hD4, hF4⟩ := hp
      have her : er ≠ 0 := opR_err hr4
      have eo : Hid (o = .error er) := by unfold Hid; rw [unhide ho, unhide eO, hr4]
      have F4 := hide (((unhide F3).trans hF4).alloc (.cells #[.int .i64 (n : Int), .int .i64 x] 24))
      have q4 := ((unhide Q3).fr hF4 (by omega)).fr ((Fr.refl (fun _ => False) w4).alloc (.cells #[.int .i64 (n : Int), .int .i64 x] 24)) (by simp)
      have HE := hide (rErr_any r v4 t4 er (w4.alloc (.cells #[.int .i64 (n : Int), .int .i64 x] 24)) (hD4.keep (S := fun _ => False) ((Fr.refl _ w4).alloc _) (by simp) (by simp)))
      obtain ⟨x0, c0⟩ := q4.c0
      obtain ⟨x1, c1⟩ := q4.c1
      have f0 := q4.f0
      have f1 := q4.f1
      have her' : (er != 0) = true := by simpa using her
      have HER := hide her
      clear hD4 hF4 hr4 eO ho F3 Q3 q4 her HRd
      go_wp2_with fail
      refine (unhide HE).mono ?_
      rintro e w5 ⟨rfl, rfl⟩
      go_wp2_with fail
      refine bodyPost_ret (v := .tuple #[.agg #[.int .i64 0, .int .i64 0], .int .i64 er]) ?_ rfl ?_
      · rw [results_cell_tmp rfl]
        go_simp
      · rw [unhide eo]
        exact ⟨0, 0, rfl, unhide HER, ((unhide F4).setCell _ (.inl (Nat.le_refl _)) _).setCell _ (.inl (Nat.le_refl _)) _⟩
    | ok q =>
      obtain ⟨a, t4⟩ := q
      rw [hr4] at hp
      obtain ⟨rfl, v4, hD4, hF4⟩ := hp
      have eo : Hid (o = if okB n a then .ok (((n : Int), a), t4) else .error 7) := by unfold Hid; rw [unhide ho, unhide eO, hr4]
      have F4 := hide (((unhide F3).trans hF4).alloc (.cells #[.int .i64 (n : Int), .int .i64 a] 24))
      have q3' := (unhide Q3).fr hF4 (by omega)
      have Q3' := hide q3'
      have Q4 := hide (q3'.fr ((Fr.refl (fun _ => False) w4).alloc (.cells #[.int .i64 (n : Int), .int .i64 a] 24)) (by simp))
      have d4 : Rdr (w4.alloc (.cells #[.int .i64 (n : Int), .int .i64 a] 24)) r rb v4 t4 0 := hD4.keep (S := fun _ => False) ((Fr.refl _ w4).alloc _) (by simp) (by simp)
      have HE := hide (rErr_any r v4 t4 0 _ d4)
      have D4 := hide d4
      have HCk := hide (fun w => check_any w n a)
      have hS : (w4.alloc (.cells #[.int .i64 (n : Int), .int .i64 a] 24)).cell? ⟨w4.heap.size, 0, none⟩ = some (.int .i64 (n : Int)) ∧ (w4.alloc (.cells #[.int .i64 (n : Int), .int .i64 a] 24)).cell? ⟨w4.heap.size, 1, none⟩ = some (.int .i64 a) := ⟨by simp, by simp⟩
      clear hD4 hF4 hr4 eO ho F3 Q3 q3' d4 HRd
      go_wp2_with fail
      refine (unhide HE).mono ?_
      rintro e w5' ⟨rfl, rfl⟩
      go_wp2_with fail
      refine wp_region_held_drew (S := (fun wx => wx.cell? ⟨w4.heap.size, 0, none⟩ = some (.int .i64 (n : Int)) ∧ wx.cell? ⟨w4.heap.size, 1, none⟩ = some (.int .i64 a))) (by kernel_rfl) hS (fun hHeld => ?_)
      refine wpAnyH_take (i := 0) (oi := _) (v := .agg #[.int .i64 (n : Int), .int .i64 a]) rfl (by kernel_rfl) (by kernel_rfl) (by kernel_rfl) (fun _ _ _ h => h) (Or.inl ⟨by rfl, (by intro w hSw; obtain ⟨hs0, hs1⟩ := hSw; go_simp)⟩) (by assumption) ?_
      refine wpAnyH_take (i := 1) (oi := _) (v := .agg #[.int .i64 (n : Int), .int .i64 a]) rfl (by kernel_rfl) (by kernel_rfl) (by kernel_rfl) (fun _ _ _ h => h) (Or.inl ⟨by rfl, (by intro w hSw; obtain ⟨hs0, hs1⟩ := hSw; go_simp)⟩) (by assumption) ?_
      go_simp
      refine wpAnyH_ready (rs := [2]) (by kernel_rfl) (by simp) ?_
      refine AllReadyH.cons (o := _) rfl (fun K hK => ?_) AllReadyH.nil
      go_simp
      refine (unhide HCk _).mono ?_
      rintro e w5 ⟨rfl, hb5⟩
      have hb5' : Below (w4.alloc (.cells #[.int .i64 (n : Int), .int .i64 a] 24)).heap.size (w4.alloc (.cells #[.int .i64 (n : Int), .int .i64 a] 24)) w5 := Below.drewB hb5
      have S5 : w5.cell? ⟨w4.heap.size, 0, none⟩ = some (.int .i64 (n : Int)) ∧ w5.cell? ⟨w4.heap.size, 1, none⟩ = some (.int .i64 a) := ⟨(hb5'.cell (p := ⟨w4.heap.size, 0, none⟩) (by simp)).trans hS.1, (hb5'.cell (p := ⟨w4.heap.size, 1, none⟩) (by simp)).trans hS.2⟩
      have F5 := hide ((unhide F4).trans (Fr.of_below hb5'))
      have q5 := (unhide Q4).below hb5'
      have D5 := hide ((unhide D4).keep (S := fun _ => False) (Fr.of_below hb5') (by simp) (by simp))
      obtain ⟨y0, c0⟩ := q5.c0
      obtain ⟨y1, c1⟩ := q5.c1
      have f0 := q5.f0
      have f1 := q5.f1
      have hne : w.heap.size ≠ w4.heap.size := by have := (unhide Q3').lt; omega
      clear hb5 hb5' q5
      go_simp
      refine hK.out _ _ S5 (fun hHeld1 => ?_)
      clear hK K
      refine wpAnyH_ready (rs := [3]) (by kernel_rfl) (by simp) ?_
      refine AllReadyH.cons (o := _) rfl (fun K hK => ?_) AllReadyH.nil
      go_simp
      have S6 : ((w5.setCell ⟨w.heap.size, 0, none⟩ (.int .i64 (n : Int))).setCell ⟨w.heap.size, 1, none⟩ (.int .i64 a)).cell? ⟨w4.heap.size, 0, none⟩ = some (.int .i64 (n : Int)) ∧ ((w5.setCell ⟨w.heap.size, 0, none⟩ (.int .i64 (n : Int))).setCell ⟨w.heap.size, 1, none⟩ (.int .i64 a)).cell? ⟨w4.heap.size, 1, none⟩ = some (.int .i64 a) := ⟨(((Fr.refl (fun k => k = w.heap.size) w5).setCell _ (.inr rfl) _).setCell _ (.inr rfl) _).cell (a := ⟨w4.heap.size, 0, none⟩) (World.block_lt_of_cell? _ _ S5.1) (fun e => hne e.symm) |>.trans S5.1, (((Fr.refl (fun k => k = w.heap.size) w5).setCell _ (.inr rfl) _).setCell _ (.inr rfl) _).cell (a := ⟨w4.heap.size, 1, none⟩) (World.block_lt_of_cell? _ _ S5.2) (fun e => hne e.symm) |>.trans S5.2⟩
      refine hK.out _ _ S6 (fun hHeld2 => ?_)
      clear hK K
      refine wpAnyH_take (i := 4) (oi := _) (v := .int .i64 (erN n a)) rfl (by kernel_rfl) (by kernel_rfl) (by kernel_rfl) (fun _ _ _ h => h) (Or.inl ⟨by rfl, (by intro w hSw; go_simp)⟩) (by assumption) ?_
      refine wpAnyH_done (by kernel_rfl) ?_ _
      clear hHeld hHeld1 hHeld2 hS S5 S6
      go_wp2_with fail
      refine bodyPost_ret (v := .tuple #[.agg #[.int .i64 (n : Int), .int .i64 a], .int .i64 (erN n a)]) ?_ rfl ?_
      · rw [results_cell_tmp rfl]
        go_simp
      · have F6 : RFr r w ((w5.setCell ⟨w.heap.size, 0, none⟩ (.int .i64 (n : Int))).setCell ⟨w.heap.size, 1, none⟩ (.int .i64 a)) := ((unhide F5).setCell _ (.inl (Nat.le_refl _)) _).setCell _ (.inl (Nat.le_refl _)) _
        rw [unhide eo]
        cases hok : okB n a
        · have her : erN n a = 7 := by simp [erN, hok]
          rw [her]
          exact ⟨n, a, rfl, by decide, F6⟩
        · have her : erN n a = 0 := by simp [erN, hok]
          rw [her]
          refine ⟨rfl, v4, ?_, F6⟩
          have hr2 := (unhide D5).lt
          have hrb2 := unhide HRB
          have ff : Fr (fun k => k = w.heap.size) w5 ((w5.setCell ⟨w.heap.size, 0, none⟩ (.int .i64 (n : Int))).setCell ⟨w.heap.size, 1, none⟩ (.int .i64 a)) := ((Fr.refl (fun k => k = w.heap.size) w5).setCell ⟨w.heap.size, 0, none⟩ (.inr rfl) _).setCell ⟨w.heap.size, 1, none⟩ (.inr rfl) _
          exact (unhide D5).keep ff (by show ¬ r = w.heap.size; omega) (fun b off len cap e q => by have q1 := (unhide D5).ap b off len cap e; have q2 : b = w.heap.size := q; omega)
  · rw [kdI_no hop, isOp_no hop]
    have e1 : rd1 n t = .error 7 := by unfold rd1; rw [isOp_no hop]; rfl
    go_wp2_with fail
    refine bodyPost_ret (v := .tuple #[.agg #[.int .i64 0, .int .i64 0], .int .i64 7]) ?_ rfl ?_
    · rw [results_cell_tmp rfl]
      go_simp
    · rw [unhide ho, e1]
      refine ⟨0, 0, rfl, by decide, ?_⟩
      exact ((unhide F2).setCell _ (.inl (Nat.le_refl _)) _).setCell _ (.inl (Nat.le_refl _)) _

set_option linter.unusedVariables false

/-- A list of instructions, out of bytes. -/
def decG : Nat → List (Int × Int) → List Int → Except Int (List (Int × Int))
  | 0, acc, _ => .ok acc
  | f + 1, acc, [] => .ok acc
  | f + 1, acc, b :: t => if acc.length = 2000 then .error 5 else match rd1 b t with
    | .error e => .error e
    | .ok (p, t') => decG f (acc ++ [p]) t'
def dec (B : List Int) : Except Int (List (Int × Int)) := decG (B.length + 1) [] B
def errOf (o : Except Int (List (Int × Int))) : Int := match o with | .ok _ => 0 | .error e => e
def lstOf (o : Except Int (List (Int × Int))) : List (Int × Int) := match o with | .ok l => l | .error _ => []

theorem opR_ok {k : Nat} {t t' : List Int} {a : Int} (hB : BOk t) (h : opR k t = .ok (a, t')) : BOk t' ∧ t'.length ≤ t.length := by
  unfold opR at h
  split at h
  · cases h; exact ⟨hB, Nat.le_refl _⟩
  · split at h
    · cases h
    · rename_i x t2 hu
      cases h
      refine ⟨(unum_lt 0 0 t x t' (by omega) (by decide) hB hu).2, ?_⟩
      have := congrArg List.length (unum_one t x t' hB hu)
      rw [List.length_append] at this
      omega
theorem rd1_ok {b : Int} {t t' : List Int} {p : Int × Int} (hB : BOk t) (h : rd1 b t = .ok (p, t')) : BOk t' ∧ t'.length ≤ t.length ∧ p.1 = b ∧ okB p.1 p.2 = true ∧ opR (kd b.toNat) t = .ok (p.2, t') ∧ isOp b = true := by
  unfold rd1 at h
  split at h
  · rename_i hop
    split at h
    · cases h
    · rename_i a t2 hu
      split at h
      · rename_i hok
        cases h
        obtain ⟨q1, q2⟩ := opR_ok hB hu
        exact ⟨q1, q2, rfl, hok, hu, hop⟩
      · cases h
  · cases h
theorem decG_nil (f : Nat) (acc : List (Int × Int)) : decG f acc [] = .ok acc := by cases f <;> rfl

/-- A reader of one's own and a list that grows. -/
structure DJ (w : World) (r rb : Nat) (acc : List (Int × Int)) (v : Value) (rest : List Int) (vr : Value) (wr : World) : Prop where
  rdr : Rdr wr r rb vr rest 0
  row : Ro wr 2 v acc.length (flat acc)
  bel : Below w.heap.size w wr
  own : ∀ k, v.ownBlock = some k → w.heap.size ≤ k ∧ k ≠ r ∧ k ≠ rb
  rlo : w.heap.size ≤ r
theorem Rdr.rb_lt {w : World} {r rb : Nat} {v : Value} {b : Int} {t : List Int} {e : Int} (h : Rdr w r rb v (b :: t) e) : rb < w.heap.size := by
  rcases h.rd with ⟨_, q⟩ | ⟨b0, off, cap, e, _, _, q, _⟩
  · cases q
  · have := h.ap b0 off _ cap e
    omega
theorem Fr.row2 {S : Nat → Prop} {w w' : World} {v : Value} {n : Nat} {xs : List Value} (h : Ro w 2 v n xs) (f : Fr S w w') (hn : ∀ k, v.ownBlock = some k → ¬ S k) : Ro w' 2 v n xs := h.keep (fun g hg => f.block g (h.lt g hg) (hn g hg))

def DecPost (w : World) (o : Except Int (List (Int × Int))) (e : Ending) (w' : World) : Prop :=
  ∃ v', e = .returned (.tuple #[v', .int .i64 (errOf o)]) ∧ Gw w (lstOf o) v' w'
theorem Gw.nil {w wr : World} (h : Below w.heap.size w wr) : Gw w [] (.slice none 0 0) wr := ⟨by simpa [flat] using Ro.nil _ _, h, by simp [Value.ownBlock]⟩

set_option maxRecDepth 100000 in
set_option maxHeartbeats 4000000 in
theorem decode_any (bv : Value) (B : List Int) (w : World) (hR : Rd w bv B) (hB : BOk B) (hN : B.length ≤ 140737488355328) :
    Calls Try.prog 7 #[bv] w fun e w' => DecPost w (dec B) e w' := by
  have HNR := hide (newReader_any bv B w hR hN)
  have HBB := hide hB
  obtain ⟨o, ho⟩ : ∃ o, Hid (o = dec B) := ⟨_, rfl⟩
  rw [← unhide ho]
  obtain ⟨N, hNN⟩ : ∃ N, Hid (N = B.length) := ⟨_, rfl⟩
  clear hR hB hN
  go_enter Try.func7, Try.ntmps7
  go_wp2_with fail
  refine (unhide HNR).mono ?_
  rintro e w1 ⟨r, rb, v2, rfl, h1, h2, h3, h4⟩
  have J0 : Hid (DJ w r rb [] (.slice none 0 0) B v2 w1) := ⟨h3, by simpa [flat] using Ro.nil _ _, h4, by simp [Value.ownBlock], h1⟩
  clear h1 h2 h3 h4 HNR
  go_wp2_with fail
  go_loopg [5] N (fun g t5 wr => ∃ (acc : List (Int × Int)) (rest : List Int) (v vr : Value) (f : Nat), Hid (rest.length = g ∧ rest.length < f ∧ acc.length ≤ 2000 ∧ BOk rest) ∧ t5 = v ∧ Hid (o = decG f acc rest) ∧ Hid (DJ w r rb acc v rest vr wr))
  case atStart => exact ⟨[], B, _, v2, B.length + 1, ⟨(unhide hNN).symm, by omega, by simp, unhide HBB⟩, rfl, unhide ho, unhide J0⟩
  case round =>
    clear J0
    obtain ⟨acc, rest, v, vr, f, hM, rfl, hO, hJ⟩ := hrel
    have HLf := hide (rLeft_any r vr rest 0 wr (unhide hJ).rdr)
    obtain ⟨va, vc, ve, vl, _⟩ := (unhide hJ).row.shape
    cases rest with
    | nil =>
      have HO : Hid (o = .ok acc) := by unfold Hid; rw [unhide hO, decG_nil]
      have HL0 : Hid (Calls Try.prog 26 #[.pointer (some ⟨r, 0, none⟩)] wr fun e w' => e = .returned (.int .i64 0) ∧ w' = wr) := unhide HLf
      clear HLf hO ve vl
      go_wp2_with fail
      refine (unhide HL0).mono ?_
      rintro e w2 ⟨rfl, rfl⟩
      go_wp2_with fail
      go_ret2
      rw [unhide HO]
      exact ⟨_, rfl, (unhide hJ).row, (unhide hJ).bel, fun k hk => ((unhide hJ).own k hk).1⟩
    | cons b t =>
      obtain ⟨L, hL⟩ : ∃ L : Nat, Hid (((b :: t).length : Int) = (L : Int) ∧ 0 < L) := ⟨t.length + 1, by unfold Hid; simp⟩
      rw [(unhide hL).1] at HLf
      have hL0 := (unhide hL).2
      obtain ⟨A, hA⟩ : ∃ A, Hid (acc.length = A) := ⟨_, rfl⟩
      rw [unhide hA] at ve vl
      subst ve
      have HNx := hide (next_any r vr b t wr (unhide hJ).rdr (unhide hM).2.2.2 (unhide hJ).rdr.rb_lt)
      obtain ⟨f', rfl⟩ : ∃ f', f = f' + 1 := ⟨f - 1, by have := unhide hM; omega⟩
      have hOO : Hid (o = if acc.length = 2000 then .error 5 else match rd1 b t with
        | .error e => .error e
        | .ok (p, t') => decG f' (acc ++ [p]) t') := unhide hO
      by_cases hfull : A = 2000
      · have HO : Hid (o = .error 5) := by unfold Hid; rw [unhide hOO, if_pos (by rw [unhide hA]; exact hfull)]
        subst hfull
        clear hOO hO
        go_wp2_with fail
        refine (unhide HLf).mono ?_
        rintro e w2 ⟨rfl, rfl⟩
        go_wp2_with fail
        go_ret2
        rw [unhide HO]
        exact ⟨_, rfl, Gw.nil (unhide hJ).bel⟩
      · have hf' : ((A : Int) == 2000) = false := by simp; omega
        have hO2 : Hid (o = match rd1 b t with
          | .error e => .error e
          | .ok (p, t') => decG f' (acc ++ [p]) t') := by unfold Hid; rw [unhide hOO, if_neg (by rw [unhide hA]; exact hfull)]
        clear hOO hO
        have hmv := unhide HNx
        cases hrd : rd1 b t with
        | error er =>
          rw [hrd] at hmv
          have HNx2 := hide hmv
          have HO : Hid (o = .error er) := by unfold Hid; rw [unhide hO2, hrd]
          clear hmv HNx hO2
          go_wp2_with fail
          refine (unhide HLf).mono ?_
          rintro e w2 ⟨rfl, rfl⟩
          go_wp2_with fail
          refine (unhide HNx2).mono ?_
          rintro e w3 ⟨x, y, rfl, her, hF3⟩
          have her' : (er != 0) = true := by simpa using her
          have F3 := hide hF3
          clear her hF3
          go_wp2_with fail
          go_ret2
          rw [unhide HO]
          refine ⟨_, rfl, Gw.nil ?_⟩
          have hb := (unhide hJ).bel
          exact (hb.trans ((unhide F3).below hb.size (fun k hk e => by have := (unhide hJ).rlo; omega))).alloc (by have := (unhide F3).size; have := hb.size; omega) _
        | ok q =>
          obtain ⟨⟨op, a⟩, t'⟩ := q
          rw [hrd] at hmv
          have HNx2 := hide hmv
          have HO : Hid (o = decG f' (acc ++ [(op, a)]) t') := by unfold Hid; rw [unhide hO2, hrd]
          have HT := hide (rd1_ok (fun x hx => (unhide hM).2.2.2 x (List.mem_cons_of_mem _ hx)) hrd)
          clear hmv HNx hO2
          go_wp2_with fail
          refine (unhide HLf).mono ?_
          rintro e w2 ⟨rfl, rfl⟩
          go_wp2_with fail
          refine (unhide HNx2).mono ?_
          rintro e w3 ⟨rfl, v3, hD3, hF3⟩
          have hrow3 : Ro w3 2 (.slice va A vc) acc.length (flat acc) := Fr.row2 (unhide hJ).row hF3 (fun k hk e => ((unhide hJ).own k hk).2.1 e)
          have HRo := hide hrow3
          have D3 := hide hD3
          have F3 := hide hF3
          have HRo2 : Hid (Ro ((w3.alloc (.cells #[.int .i64 op, .int .i64 a] 24)).alloc (.cells #[.int .i64 op, .int .i64 a] 24)) 2 (.slice va A vc) acc.length (flat acc)) :=
            Fr.row2 (S := fun _ => False) hrow3 (((Fr.refl _ w3).alloc _).alloc _) (fun _ _ e => e)
          have HTN : Hid (∀ j u, [Value.int .i64 op, .int .i64 a][j]? = some u → ((w3.alloc (.cells #[.int .i64 op, .int .i64 a] 24)).alloc (.cells #[.int .i64 op, .int .i64 a] 24)).cell? ((⟨w3.heap.size + 1, 0, none⟩ : Addr).add j) = some u) := by
            have q := two_new' (w3.alloc (.cells #[.int .i64 op, .int .i64 a] 24)) (.int .i64 op) (.int .i64 a) 24
            rw [show (w3.alloc (.cells #[.int .i64 op, .int .i64 a] 24)).heap.size = w3.heap.size + 1 by simp] at q
            exact q
          have HLN : Hid (acc.length ≤ 8796093022207) := by have := unhide hM; unfold Hid; omega
          clear hrow3 hD3 hF3
          go_wp2_with (first | (at_builtin; refine wpList_appW rfl _ _ rfl _ acc rfl (unhide HRo2) ⟨w3.heap.size + 1, 0, none⟩ 1 op a rfl (unhide HTN) (unhide HLN) ?_))
          intro v5 w5 hr5 hg5 hat5
          have f5 : Fr (fun k => (Value.slice va A vc).ownBlock = some k) w3 w5 := (((Fr.refl (fun k => (Value.slice va A vc).ownBlock = some k) w3).alloc _).alloc _).grown hg5 (fun k e => .inr e)
          have hrl := (unhide D3).lt
          have hrbl : rb < w3.heap.size := Nat.lt_of_lt_of_le (unhide hJ).rdr.rb_lt (unhide F3).size
          have hb := (unhide hJ).bel
          have hb3 := hb.trans ((unhide F3).below hb.size (fun k hk e => by have := (unhide hJ).rlo; omega))
          have J5 : Hid (DJ w r rb (acc ++ [(op, a)]) v5 t' v3 w5) := by
            refine ⟨(unhide D3).keep f5 (fun e => ((unhide hJ).own r e).2.1 rfl) (fun b0 off len cap e q => ?_), by simpa using hr5, hb3.trans (f5.below hb3.size (fun k hk e => by have := ((unhide hJ).own k e).1; omega)), fun k hk => ?_, (unhide hJ).rlo⟩
            · have q1 := (unhide D3).ap b0 off len cap e
              exact ((unhide hJ).own b0 q).2.2 q1
            · rcases hat5 with e | e
              · rw [e] at hk; exact (unhide hJ).own k hk
              · rw [e] at hk
                cases hk
                have := hb3.size
                simp
                omega
          clear hr5 hg5 hat5 f5 hrl hrbl hb hb3
          go_wp2_with fail
          go_roundg (t'.length)
          case measure =>
            have h1 := (unhide hM).1
            have h2 := (unhide HT).2.1
            simp at h1
            omega
          case rel =>
            refine ⟨acc ++ [(op, a)], t', v5, v3, f', ?_, rfl, unhide HO, unhide J5⟩
            have h1 := (unhide hM).1
            have h2 := (unhide hM).2.1
            have h3 := (unhide hM).2.2.1
            have h4 := unhide HT
            have h5 := unhide hA
            simp at h1 h2
            refine ⟨rfl, by omega, ?_, h4.1⟩
            rw [List.length_append, List.length_singleton]
            omega

set_option linter.unusedVariables false

theorem right0 {a : Int} (h : rightB 0 a = true) : a = 0 := by
  have e1 : lo 0 = 0 := rfl
  have e2 : hi 0 = 0 := rfl
  simp only [rightB, e1, e2] at h
  simp at h
  omega
theorem rightk {k : Nat} (hk : k < 9) (h0 : k ≠ 0) (h1 : k ≠ 1) {a : Int} (h : rightB k a = true) : 0 ≤ a ∧ a < 9223372036854775808 := by
  by_cases h7 : k = 7
  · subst h7
    have e : rightB 7 a = decide (a = 8 ∨ a = 16 ∨ a = 32) := rfl
    rw [e] at h
    simp at h
    omega
  · have e : rightB k a = decide (lo k ≤ a ∧ a ≤ hi k) := by rw [rightB, if_neg h7]
    rw [e] at h
    have : ∀ k : Fin 9, k.val ≠ 0 → k.val ≠ 1 → 0 ≤ lo k.val ∧ hi k.val < 9223372036854775808 := by decide +kernel
    have q : 0 ≤ lo k ∧ hi k < 9223372036854775808 := this ⟨k, hk⟩ h0 h1
    simp at h
    omega
theorem sI_small {x : Nat} (h : x < 9223372036854775808) : sI x = x := by
  unfold sI
  unfold wrap64
  omega
theorem sI_big {x : Nat} (h0 : 9223372036854775808 ≤ x) (h : x < 2 ^ 64) : sI x < 0 := by
  unfold sI
  unfold wrap64
  omega
theorem opR_back (k : Nat) (hk : k < 9) (a : Int) (ha : I64 a) (h : rightB k a = true) (t : List Int) : opR k (opF k a ++ t) = .ok (a, t) := by
  by_cases h0 : k = 0
  · subst h0
    rw [right0 h]
    rfl
  · by_cases h1 : k = 1
    · subst h1
      have e : opF 1 a = Wm.uform 9 (foldI a).toNat := rfl
      have hb := foldI_bd a ha.1 ha.2
      rw [e]
      unfold opR
      rw [if_neg (by omega), unum_form _ _ (by omega)]
      simp [unfold_fold]
    · have e : opF k a = Wm.uform 9 (a % 18446744073709551616).toNat := by unfold opF; rw [if_neg h0, if_neg h1]
      obtain ⟨q1, q2⟩ := rightk hk h0 h1 h
      rw [e]
      unfold opR
      rw [if_neg h0, unum_form _ _ (by omega)]
      simp only [if_neg h1]
      rw [sI_small (by omega)]
      congr 2
      omega
theorem okB_split {p : Int × Int} (h : okB p.1 p.2 = true) : isOp p.1 = true ∧ rightB (kd p.1.toNat) p.2 = true := by
  simpa [okB] using h
theorem rd1_back (p : Int × Int) (ha : I64 p.2) (h : okB p.1 p.2 = true) (t : List Int) : rd1 p.1 (opF (kd p.1.toNat) p.2 ++ t) = .ok (p, t) := by
  obtain ⟨h1, h2⟩ := okB_split h
  unfold rd1
  rw [if_pos h1, opR_back _ (kd_lt _) _ ha h2]
  simp only [h, if_true]
theorem decG_back : ∀ (l : List (Int × Int)) (f : Nat) (acc : List (Int × Int)), (∀ p ∈ l, I64 p.2) → okL l = true → acc.length + l.length ≤ 2000 → (efm l).length < f → decG f acc (efm l) = .ok (acc ++ l)
  | [], f, acc, _, _, _, _ => by
    have : efm [] = [] := rfl
    rw [this, decG_nil, List.append_nil]
  | p :: r, f, acc, hI, hok, hl, hf => by
    have e : efm (p :: r) = p.1 :: (opF (kd p.1.toNat) p.2 ++ efm r) := by simp [efm, ifm]
    rw [e] at hf ⊢
    obtain ⟨f', rfl⟩ : ∃ f', f = f' + 1 := ⟨f - 1, by simp at hf; omega⟩
    have hp : okB p.1 p.2 = true := by simp [okL] at hok; exact hok.1
    have hr : okL r = true := by simp [okL] at hok ⊢; exact hok.2
    simp only [List.length_cons] at hl
    rw [decG, if_neg (by omega), rd1_back p (hI p (List.mem_cons_self ..)) hp]
    simp only
    rw [decG_back r f' (acc ++ [p]) (fun q hq => hI q (List.mem_cons_of_mem _ hq)) hr (by rw [List.length_append, List.length_singleton]; omega) (by simp at hf; omega)]
    rw [List.append_assoc]; rfl
theorem dec_back {l : List (Int × Int)} (hI : ∀ p ∈ l, I64 p.1 ∧ I64 p.2) (h : encE l = 0) : dec (encB l) = .ok l := by
  obtain ⟨h1, h2⟩ := encE_ok h
  rw [encB_ok h]
  have := decG_back l ((efm l).length + 1) [] (fun p hp => (hI p hp).2) h2 (by simpa using h1) (by omega)
  simpa [dec] using this
theorem opR_one {k : Nat} (hk : k < 9) {t t' : List Int} {a : Int} (hB : BOk t) (h : opR k t = .ok (a, t')) (hr : rightB k a = true) : opF k a ++ t' = t ∧ I64 a := by
  by_cases h0 : k = 0
  · subst h0
    have e : opR 0 t = .ok (0, t) := rfl
    rw [e] at h
    cases h
    exact ⟨rfl, by decide, by decide⟩
  · unfold opR at h
    rw [if_neg h0] at h
    split at h
    · cases h
    · rename_i x t2 hu
      obtain ⟨hx, _⟩ := unum_lt 0 0 t x t2 (by omega) (by decide) hB hu
      have h1 := unum_one t x t2 hB hu
      cases h
      by_cases h1k : k = 1
      · subst h1k
        rw [if_pos rfl]
        have e : opF 1 (unfoldI x) = Wm.uform 9 (foldI (unfoldI x)).toNat := rfl
        rw [e, fold_unfold]
        exact ⟨by simpa using h1, unfold_bd x hx⟩
      · rw [if_neg h1k] at hr ⊢
        obtain ⟨q1, q2⟩ := rightk hk h0 h1k hr
        have hs : x < 9223372036854775808 := by
          rcases Nat.lt_or_ge x 9223372036854775808 with c | c
          · exact c
          · have := sI_big c hx; omega
        rw [sI_small hs] at q1 q2 ⊢
        have e : opF k (x : Int) = Wm.uform 9 ((x : Int) % 18446744073709551616).toNat := by unfold opF; rw [if_neg h0, if_neg h1k]
        rw [e, show ((x : Int) % 18446744073709551616).toNat = x by omega]
        exact ⟨h1, by unfold I64; omega⟩
theorem rd1_one {b : Int} {t t' : List Int} {p : Int × Int} (hB : BOk t) (h : rd1 b t = .ok (p, t')) : ifm p ++ t' = b :: t ∧ okB p.1 p.2 = true ∧ I64 p.1 ∧ I64 p.2 := by
  obtain ⟨_, _, q1, q2, q3, q4⟩ := rd1_ok hB h
  obtain ⟨_, q5⟩ := okB_split q2
  rw [q1] at q5
  obtain ⟨q6, q7⟩ := opR_one (kd_lt _) hB q3 q5
  refine ⟨?_, q2, ?_, q7⟩
  · unfold ifm
    rw [q1, List.cons_append, q6]
  · have : 0 ≤ b ∧ b < 67 := by simpa [isOp] using q4
    rw [q1]; unfold I64; omega
theorem decG_one : ∀ (f : Nat) (acc l : List (Int × Int)) (B : List Int), BOk B → B.length < f → acc.length ≤ 2000 → decG f acc B = .ok l → ∃ m, l = acc ++ m ∧ okL m = true ∧ efm m = B ∧ l.length ≤ 2000 ∧ ∀ p ∈ m, I64 p.1 ∧ I64 p.2
  | 0, _, _, _, _, hf, _, _ => by omega
  | f + 1, acc, l, [], _, _, ha, h => by
    rw [decG_nil] at h
    cases h
    exact ⟨[], by simp, rfl, rfl, ha, fun p hp => by cases hp⟩
  | f + 1, acc, l, b :: t, hB, hf, ha, h => by
    rw [decG] at h
    split at h
    · cases h
    · rename_i hne
      split at h
      · cases h
      · rename_i p t' hrd
        have hBt : BOk t := fun x hx => hB x (List.mem_cons_of_mem _ hx)
        obtain ⟨q1, q2, q3⟩ := rd1_one hBt hrd
        obtain ⟨q4, q5, _⟩ := rd1_ok hBt hrd
        obtain ⟨m, e1, e2, e3, e4, e5⟩ := decG_one f (acc ++ [p]) l t' q4 (by simp at hf; omega) (by rw [List.length_append, List.length_singleton]; omega) h
        refine ⟨p :: m, by rw [e1]; simp, ?_, ?_, e4, ?_⟩
        · simp [okL] at e2 ⊢; exact ⟨q2, e2⟩
        · rw [← q1, ← e3]; simp [efm]
        · intro q hq
          rcases List.mem_cons.1 hq with rfl | hq
          · exact q3
          · exact e5 q hq
theorem dec_one {B : List Int} (hB : BOk B) {l : List (Int × Int)} (h : dec B = .ok l) : encE l = 0 ∧ encB l = B ∧ ∀ p ∈ l, I64 p.1 ∧ I64 p.2 := by
  obtain ⟨m, e1, e2, e3, e4, e5⟩ := decG_one _ [] l B hB (by omega) (by simp) h
  simp at e1
  subst e1
  have e := encE_of e4 e2
  exact ⟨e, by rw [encB_ok e, e3], e5⟩

theorem errOf_ne {B : List Int} (e : Int) (h : dec B = .error e) : e ≠ 0 := by
  have : ∀ (f : Nat) (acc : List (Int × Int)) (B : List Int), decG f acc B = .error e → e ≠ 0 := by
    intro f
    induction f with
    | zero => intro acc B h; cases h
    | succ f ih =>
      intro acc B h
      cases B with
      | nil => rw [decG_nil] at h; cases h
      | cons b t =>
        rw [decG] at h
        split at h
        · cases h; decide
        · split at h
          · rename_i er hrd
            cases h
            unfold rd1 at hrd
            split at hrd
            · split at hrd
              · rename_i e2 ho
                cases hrd
                exact opR_err ho
              · split at hrd
                · cases hrd
                · cases hrd; decide
            · cases hrd; decide
          · exact ih _ _ h
  exact this _ _ _ h

set_option maxRecDepth 100000 in
set_option maxHeartbeats 4000000 in
theorem sameC_any {w : World} {u v : Value} {l : List (Int × Int)} (hu : RtV w u l) (hv : RtV w v l) :
    Calls Try.prog 44 #[u, v] w fun e w' => e = .returned (.bool true) ∧ ∃ k, w' = w.drewN k := by
  obtain ⟨ua, uc, rfl, hu1, um, hU⟩ := hu
  obtain ⟨va, vc, rfl, hv1, vm, hV⟩ := hv
  have HU := hide hU
  have HV := hide hV
  obtain ⟨L, hL⟩ : ∃ L, Hid (l.length = L) := ⟨_, rfl⟩
  have hLm : L ≤ maxLen := by rw [← unhide hL]; omega
  unfold maxLen at hLm
  rw [unhide hL] at ⊢
  clear hU hV um vm hu1 hv1
  have d0 : (((L : Nat) : Int) != (L : Int)) = false := by simp
  go_enter Try.func44, Try.ntmps44
  go_wp2_with fail
  go_loopg [5] L (fun gg t5 wr => ∃ (i : Nat), Hid (i + gg = L) ∧ t5 = .int .i64 (i : Int) ∧ Hid (∃ k, wr = w.drewN k))
  case atStart => exact ⟨0, by unfold Hid; omega, rfl, 0, rfl⟩
  case round =>
    obtain ⟨i, hi, rfl, hB⟩ := hrel
    by_cases hlt : i < L
    · have hil : i < l.length := by rw [unhide hL]; exact hlt
      obtain ⟨p, hp⟩ : ∃ p, l[i]? = some p := ⟨_, List.getElem?_eq_getElem hil⟩
      obtain ⟨b, so, rfl, hb, c0, c1⟩ := unhide HU i p hp
      obtain ⟨g, off, rfl, hg, q0, q1⟩ := unhide HV i p hp
      have fd : Fr (fun _ => False) w wr := by obtain ⟨k, e⟩ := unhide hB; rw [e]; exact ⟨rfl, rfl, rfl, Nat.le_refl _, fun _ _ _ => rfl⟩
      have lb := Nat.lt_of_lt_of_le hb fd.size
      have lg := Nat.lt_of_lt_of_le hg fd.size
      have k0 := (fd.cell (a := ⟨b, so + i * 2, none⟩) hb (fun e => e)).trans c0
      have k1 := (fd.cell (a := ⟨b, so + i * 2 + 1, none⟩) hb (fun e => e)).trans c1
      have r0 := (fd.cell (a := ⟨g, off + i * 2, none⟩) hg (fun e => e)).trans q0
      have r1 := (fd.cell (a := ⟨g, off + i * 2 + 1, none⟩) hg (fun e => e)).trans q1
      have i0 : (0 : Int) ≤ (i : Int) := by omega
      have i1 : (i : Int) < (L : Int) := by omega
      clear c0 c1 q0 q1 hp hb hg fd
      go_wp2_with fail
      go_quiet (fail)
      go_wp2_with fail
      go_roundg (gk - 1)
      case measure => have := unhide hi; omega
      case rel => exact ⟨i + 1, by have := unhide hi; unfold Hid; omega, by go_num, by obtain ⟨k, e⟩ := unhide hB; exact ⟨k + nq, by rw [e, World.drewN_drewN]⟩⟩
    · have hiL : i = L := by have := unhide hi; omega
      subst hiL
      obtain ⟨k, rfl⟩ := unhide hB
      go_wp2_with fail
      go_ret
      exact ⟨rfl, k, rfl⟩
end Go.Proofs.Ytonnkaphomonpaa
