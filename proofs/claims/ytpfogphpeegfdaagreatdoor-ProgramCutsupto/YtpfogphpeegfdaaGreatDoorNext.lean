/-
  One instruction is read.
-/
import Derived.Test.YtpfogphpeegfdaaGreatDoorEnc
import Derived.Test.YtpfogphpeegfdaaGreatDoorOneMath
namespace Go.Proofs.YtpfogphpeegfdaaGreatDoor
open Go.RowKit
set_option linter.unusedVariables false

/-- An unsigned number as a signed one. -/
def sI (x : Nat) : Int := wrap64 (x : Int)
/-- The operand of a kind, out of bytes. -/
def opR (k : Nat) (t : List Int) : Except Int (Int × List Int) :=
  if k = 0 then .ok (0, t) else match unum 0 0 t with
    | .error e => .error e
    | .ok (x, t') => .ok (if k = 1 then unfoldI x else sI x, t')
/-- One instruction, out of bytes. -/
def rd1 (b : Int) (t : List Int) : Except Int ((Int × Int) × List Int) :=
  if isOp b then match opR (kd b.toNat) t with
    | .error e => .error e
    | .ok (a, t') => if okB b a then .ok ((b, a), t') else .error 7
  else .error 7

def ReadPost (r rb : Nat) (w : World) (o : Except Int (Int × List Int)) (e : Ending) (w' : World) : Prop :=
  match o with
  | .ok (a, t) => e = .returned (.int .i64 a) ∧ ∃ v2, Rdr w' r rb v2 t 0 ∧ RFr r w w'
  | .error k => ∃ x, e = .returned (.int .i64 x) ∧ ∃ v2 t, Rdr w' r rb v2 t k ∧ RFr r w w'

set_option maxRecDepth 100000 in
set_option maxHeartbeats 4000000 in
theorem read_any (k : Nat) (r : Nat) {rb : Nat} (v : Value) (bs : List Int) (w : World) (h : Rdr w r rb v bs 0) (hB : BOk bs) :
    Calls Tryz.prog (rF k) #[.pointer (some ⟨r, 0, none⟩)] w fun e w' => ReadPost r rb w (opR k bs) e w' := by
  by_cases h0 : k = 0
  · subst h0
    have e : opR 0 bs = .ok (0, bs) := rfl
    rw [e]
    have hh := hide h
    clear e h hB
    show Calls Tryz.prog 114 _ _ _
    go_enter Tryz.func114, Tryz.ntmps114
    go_wp2
    go_ret
    exact ⟨rfl, v, unhide hh, RFr.refl _ _⟩
  · by_cases h1 : k = 1
    · subst h1
      refine (rInt_any r v bs 0 w h hB).mono ?_
      rintro e w' ⟨he, v2, hR, hF⟩
      have eo : opR 1 bs = match unum 0 0 bs with | .error e => .error e | .ok (x, t') => .ok (unfoldI x, t') := by simp [opR]
      rw [eo]
      cases hu : unum 0 0 bs with
      | error k =>
        rw [hu] at he hR
        exact ⟨0, he, v2, _, hR, hF⟩
      | ok q =>
        rw [hu] at he hR
        exact ⟨he, v2, hR, hF⟩
    · have e1 : rF k = 118 := by unfold rF; rw [if_neg h0, if_neg h1]
      have eo : opR k bs = match unum 0 0 bs with | .error e => .error e | .ok (x, t') => .ok (sI x, t') := by simp [opR, h0, h1]
      rw [e1, eo]
      have h1 := rUint_any r v bs 0 w h hB
      cases hu : unum 0 0 bs with
      | error kk =>
        rw [hu] at h1
        have H1 : Hid (Calls Tryz.prog 119 #[.pointer (some ⟨r, 0, none⟩)] w fun e w' => e = .returned (.int .u64 0) ∧ ∃ v2, Rdr w' r rb v2 bs kk ∧ RFr r w w') := h1
        clear e1 eo h0 h1 h hB hu
        go_enter Tryz.func118, Tryz.ntmps118
        go_wp2_with fail
        refine (unhide H1).mono ?_
        rintro e w' ⟨rfl, v2, hR, hF⟩
        have HR := hide hR
        have HF := hide hF
        clear hR hF
        go_wp2_with fail
        go_ret
        exact ⟨_, rfl, v2, _, unhide HR, unhide HF⟩
      | ok q =>
        obtain ⟨x, t⟩ := q
        rw [hu] at h1
        have H1 : Hid (Calls Tryz.prog 119 #[.pointer (some ⟨r, 0, none⟩)] w fun e w' => e = .returned (.int .u64 (x : Int)) ∧ ∃ v2, Rdr w' r rb v2 t 0 ∧ RFr r w w') := h1
        clear e1 eo h0 h1 h hB hu
        go_enter Tryz.func118, Tryz.ntmps118
        go_wp2_with fail
        refine (unhide H1).mono ?_
        rintro e w' ⟨rfl, v2, hR, hF⟩
        have HR := hide hR
        have HF := hide hF
        clear hR hF
        go_wp2_with fail
        go_ret
        exact ⟨rfl, v2, unhide HR, unhide HF⟩

theorem opR_err {k : Nat} {t : List Int} {e : Int} (h : opR k t = .error e) : e ≠ 0 := by
  unfold opR at h
  split at h
  · cases h
  · split at h
    · rename_i e' hu
      cases h
      exact unum_err _ _ _ _ hu
    · cases h
/-- A block of two cells. -/
structure Bk (W : World) (g : Nat) : Prop where
  ex : ∃ x y, W.heap[g]? = some (.cells #[x, y] 63 (0, 0))
theorem Bk.fr {S : Nat → Prop} {w w' : World} {g : Nat} (h : Bk w g) (f : Fr S w w') (hn : ¬ S g) : Bk w' g := by
  obtain ⟨x, y, e⟩ := h.ex
  exact ⟨x, y, by rw [f.block g (Array.getElem?_eq_some_iff.1 e).1 hn]; exact e⟩
theorem Bk.below {w w' : World} {g : Nat} (h : Bk w g) (f : Below w.heap.size w w') : Bk w' g := h.fr (Fr.of_below (S := fun _ => False) f) (by simp)
theorem Bk.c0 {w : World} {g : Nat} (h : Bk w g) : ∃ x, w.cell? ⟨g, 0, none⟩ = some x := by
  obtain ⟨x, y, e⟩ := h.ex
  exact ⟨x, by simp [World.cell?, e]⟩
theorem Bk.c1 {w : World} {g : Nat} (h : Bk w g) : ∃ x, w.cell? ⟨g, 1, none⟩ = some x := by
  obtain ⟨x, y, e⟩ := h.ex
  exact ⟨y, by simp [World.cell?, e]⟩
theorem Bk.f0 {w : World} {g : Nat} (h : Bk w g) : w.frozen? ⟨g, 0, none⟩ = false := by
  obtain ⟨x, y, e⟩ := h.ex
  simp [World.frozen?, e]
theorem Bk.f1 {w : World} {g : Nat} (h : Bk w g) : w.frozen? ⟨g, 1, none⟩ = false := by
  obtain ⟨x, y, e⟩ := h.ex
  simp [World.frozen?, e]
theorem Bk.lt {w : World} {g : Nat} (h : Bk w g) : g < w.heap.size := by
  obtain ⟨x, y, e⟩ := h.ex
  exact (Array.getElem?_eq_some_iff.1 e).1
theorem Bk.new (w : World) (x y : Value) : Bk (w.alloc (.cells #[x, y] 63)) w.heap.size := ⟨x, y, heap_alloc_new w _⟩

def NextPost (r rb : Nat) (w : World) (o : Except Int ((Int × Int) × List Int)) (e : Ending) (w' : World) : Prop :=
  match o with
  | .ok ((op, a), t) => e = .returned (.tuple #[.agg #[.int .i64 op, .int .i64 a], .int .i64 0]) ∧ ∃ v2, Rdr w' r rb v2 t 0 ∧ RFr r w w'
  | .error k => ∃ x y, e = .returned (.tuple #[.agg #[.int .i64 x, .int .i64 y], .int .i64 k]) ∧ k ≠ 0 ∧ RFr r w w'

set_option maxRecDepth 100000 in
set_option maxHeartbeats 4000000 in
theorem next_any (r : Nat) {rb : Nat} (v : Value) (b : Int) (t : List Int) (w : World) (h : Rdr w r rb v (b :: t) 0) (hB : BOk (b :: t)) (hrb : rb < w.heap.size) :
    Calls Tryz.prog 103 #[.pointer (some ⟨r, 0, none⟩)] w fun e w' => NextPost r rb w (rd1 b t) e w' := by
  have hr := h.lt
  have h1 : Rdr (w.alloc (.cells #[.int .i64 0, .int .i64 0] 63)) r rb v (b :: t) 0 := h.keep (S := fun _ => False) ((Fr.refl _ w).alloc _) (by simp) (by simp)
  have H1 := hide (rByte_any r v (b :: t) 0 _ h1)
  have HBt : Hid (BOk t) := fun x hx => hB x (List.mem_cons_of_mem _ hx)
  have hb0 := hB b (List.mem_cons_self ..)
  have HO := hide operand_any
  have HF := hide formOf_any
  have F0 : Hid (Fr (fun k => k = r) w (w.alloc (.cells #[.int .i64 0, .int .i64 0] 63))) := (Fr.refl _ w).alloc _
  have Q0 := hide (Bk.new w (.int .i64 0) (.int .i64 0))
  have HRB := hide hrb
  obtain ⟨n, rfl⟩ : ∃ n : Nat, b = n := ⟨b.toNat, by omega⟩
  obtain ⟨o, ho⟩ : ∃ o, Hid (o = rd1 n t) := ⟨_, rfl⟩
  rw [← unhide ho]
  clear h h1 hB hrb
  go_enter Tryz.func103, Tryz.ntmps103
  go_wp2_with fail
  refine (unhide H1).mono ?_
  rintro e w1 ⟨he, v1, hR1, hF1⟩
  have he' : e = .returned (.int .u8 (n : Int)) := he
  have D1 : Hid (Rdr w1 r rb v1 t 0) := hR1
  have F1 := hide ((unhide F0).trans hF1)
  have Q1 := hide ((unhide Q0).fr hF1 (by omega))
  subst he'
  clear he hR1 hF1 H1 F0 Q0
  go_wp2_with fail
  refine (unhide HO _ _).mono ?_
  rintro e w2 ⟨rfl, hb2⟩
  have D2 := hide ((unhide D1).keep (S := fun _ => False) (Fr.of_below hb2) (by simp) (by simp))
  have F2 := hide ((unhide F1).trans (Fr.of_below hb2))
  have q2 := (unhide Q1).below hb2
  obtain ⟨x0, c0⟩ := q2.c0
  obtain ⟨x1, c1⟩ := q2.c1
  have f0 := q2.f0
  have f1 := q2.f1
  have Q2 := hide q2
  clear hb2 D1 F1 Q1 q2
  by_cases hop : 0 ≤ (n : Int) ∧ (n : Int) < 67
  · have hn : n < 67 := by omega
    rw [kdI_nat hn, isOp_nat hn]
    have eO : Hid (rd1 n t = match opR (kd n) t with | .error e => .error e | .ok (a, t') => if okB n a then .ok (((n : Int), a), t') else .error 7) := by
      unfold Hid rd1; rw [isOp_nat hn]; rfl
    have hent := enterR (kd n)
    have hf1 : ∀ (a b : Value) (w : World), (Instr.field 155 (.agg #[a, b]) 1).run Tryz.prog w = .ok b w := fun a b w => by kernel_rfl
    clear c0 c1 f0 f1
    go_wp2_with fail
    refine (unhide HF _ _).mono ?_
    rintro e w3 ⟨rfl, hb3⟩
    have HRd := hide (read_any (kd n) r v1 t w3 ((unhide D2).keep (S := fun _ => False) (Fr.of_below hb3) (by simp) (by simp)) (unhide HBt))
    have F3 := hide ((unhide F2).trans (Fr.of_below hb3))
    have Q3 := hide ((unhide Q2).below hb3)
    clear hb3 D2 F2 Q2
    go_wp2_with fail
    refine (unhide HRd).mono ?_
    intro e w4 hp
    cases hr4 : opR (kd n) t with
    | error er =>
      rw [hr4] at hp
      obtain ⟨x, rfl, v4, t4, hD4, hF4⟩ := hp
      have her : er ≠ 0 := opR_err hr4
      have eo : Hid (o = .error er) := by unfold Hid; rw [unhide ho, unhide eO, hr4]
      have F4 := hide (((unhide F3).trans hF4).alloc (.cells #[.int .i64 (n : Int), .int .i64 x] 63))
      have q4 := ((unhide Q3).fr hF4 (by omega)).fr ((Fr.refl (fun _ => False) w4).alloc (.cells #[.int .i64 (n : Int), .int .i64 x] 63)) (by simp)
      have HE := hide (rErr_any r v4 t4 er (w4.alloc (.cells #[.int .i64 (n : Int), .int .i64 x] 63)) (hD4.keep (S := fun _ => False) ((Fr.refl _ w4).alloc _) (by simp) (by simp)))
      obtain ⟨x0, c0⟩ := q4.c0
      obtain ⟨x1, c1⟩ := q4.c1
      have f0 := q4.f0
      have f1 := q4.f1
      have her' : (er != 0) = true := by simpa using her
      have HER := hide her
      clear hD4 hF4 hr4 eO ho F3 Q3 q4 her HRd
      go_wp2_with fail
      refine (unhide HE).mono ?_
      rintro e w5 ⟨rfl, rfl⟩
      go_wp2_with fail
      refine bodyPost_ret (v := .tuple #[.agg #[.int .i64 0, .int .i64 0], .int .i64 er]) ?_ rfl ?_
      · rw [results_cell_tmp rfl]
        go_simp
      · rw [unhide eo]
        exact ⟨0, 0, rfl, unhide HER, ((unhide F4).setCell _ (.inl (Nat.le_refl _)) _).setCell _ (.inl (Nat.le_refl _)) _⟩
    | ok q =>
      obtain ⟨a, t4⟩ := q
      rw [hr4] at hp
      obtain ⟨rfl, v4, hD4, hF4⟩ := hp
      have eo : Hid (o = if okB n a then .ok (((n : Int), a), t4) else .error 7) := by unfold Hid; rw [unhide ho, unhide eO, hr4]
      have F4 := hide (((unhide F3).trans hF4).alloc (.cells #[.int .i64 (n : Int), .int .i64 a] 63))
      have q3' := (unhide Q3).fr hF4 (by omega)
      have Q3' := hide q3'
      have Q4 := hide (q3'.fr ((Fr.refl (fun _ => False) w4).alloc (.cells #[.int .i64 (n : Int), .int .i64 a] 63)) (by simp))
      have d4 : Rdr (w4.alloc (.cells #[.int .i64 (n : Int), .int .i64 a] 63)) r rb v4 t4 0 := hD4.keep (S := fun _ => False) ((Fr.refl _ w4).alloc _) (by simp) (by simp)
      have HE := hide (rErr_any r v4 t4 0 _ d4)
      have D4 := hide d4
      have HCk := hide (fun w => check_any w n a)
      have hS : (w4.alloc (.cells #[.int .i64 (n : Int), .int .i64 a] 63)).cell? ⟨w4.heap.size, 0, none⟩ = some (.int .i64 (n : Int)) ∧ (w4.alloc (.cells #[.int .i64 (n : Int), .int .i64 a] 63)).cell? ⟨w4.heap.size, 1, none⟩ = some (.int .i64 a) := ⟨by simp, by simp⟩
      clear hD4 hF4 hr4 eO ho F3 Q3 q3' d4 HRd
      go_wp2_with fail
      refine (unhide HE).mono ?_
      rintro e w5' ⟨rfl, rfl⟩
      go_wp2_with fail
      refine wp_region_held_drew (S := (fun wx => wx.cell? ⟨w4.heap.size, 0, none⟩ = some (.int .i64 (n : Int)) ∧ wx.cell? ⟨w4.heap.size, 1, none⟩ = some (.int .i64 a))) (by kernel_rfl) hS (fun hHeld => ?_)
      refine wpAnyH_take (i := 0) (oi := _) (v := .agg #[.int .i64 (n : Int), .int .i64 a]) rfl (by kernel_rfl) (by kernel_rfl) (by kernel_rfl) (fun _ _ _ h => h) (Or.inl ⟨by rfl, (by intro w hSw; obtain ⟨hs0, hs1⟩ := hSw; go_simp)⟩) (by assumption) ?_
      refine wpAnyH_take (i := 1) (oi := _) (v := .agg #[.int .i64 (n : Int), .int .i64 a]) rfl (by kernel_rfl) (by kernel_rfl) (by kernel_rfl) (fun _ _ _ h => h) (Or.inl ⟨by rfl, (by intro w hSw; obtain ⟨hs0, hs1⟩ := hSw; go_simp)⟩) (by assumption) ?_
      go_simp
      refine wpAnyH_ready (rs := [2]) (by kernel_rfl) (by simp) ?_
      refine AllReadyH.cons (o := _) rfl (fun K hK => ?_) AllReadyH.nil
      go_simp
      refine (unhide HCk _).mono ?_
      rintro e w5 ⟨rfl, hb5⟩
      have hb5' : Below (w4.alloc (.cells #[.int .i64 (n : Int), .int .i64 a] 63)).heap.size (w4.alloc (.cells #[.int .i64 (n : Int), .int .i64 a] 63)) w5 := Below.drewB hb5
      have S5 : w5.cell? ⟨w4.heap.size, 0, none⟩ = some (.int .i64 (n : Int)) ∧ w5.cell? ⟨w4.heap.size, 1, none⟩ = some (.int .i64 a) := ⟨(hb5'.cell (p := ⟨w4.heap.size, 0, none⟩) (by simp)).trans hS.1, (hb5'.cell (p := ⟨w4.heap.size, 1, none⟩) (by simp)).trans hS.2⟩
      have F5 := hide ((unhide F4).trans (Fr.of_below hb5'))
      have q5 := (unhide Q4).below hb5'
      have D5 := hide ((unhide D4).keep (S := fun _ => False) (Fr.of_below hb5') (by simp) (by simp))
      obtain ⟨y0, c0⟩ := q5.c0
      obtain ⟨y1, c1⟩ := q5.c1
      have f0 := q5.f0
      have f1 := q5.f1
      have hne : w.heap.size ≠ w4.heap.size := by have := (unhide Q3').lt; omega
      clear hb5 hb5' q5
      go_simp
      refine hK.out _ _ S5 (fun hHeld1 => ?_)
      clear hK K
      refine wpAnyH_ready (rs := [3]) (by kernel_rfl) (by simp) ?_
      refine AllReadyH.cons (o := _) rfl (fun K hK => ?_) AllReadyH.nil
      go_simp
      have S6 : ((w5.setCell ⟨w.heap.size, 0, none⟩ (.int .i64 (n : Int))).setCell ⟨w.heap.size, 1, none⟩ (.int .i64 a)).cell? ⟨w4.heap.size, 0, none⟩ = some (.int .i64 (n : Int)) ∧ ((w5.setCell ⟨w.heap.size, 0, none⟩ (.int .i64 (n : Int))).setCell ⟨w.heap.size, 1, none⟩ (.int .i64 a)).cell? ⟨w4.heap.size, 1, none⟩ = some (.int .i64 a) := ⟨(((Fr.refl (fun k => k = w.heap.size) w5).setCell _ (.inr rfl) _).setCell _ (.inr rfl) _).cell (a := ⟨w4.heap.size, 0, none⟩) (World.block_lt_of_cell? _ _ S5.1) (fun e => hne e.symm) |>.trans S5.1, (((Fr.refl (fun k => k = w.heap.size) w5).setCell _ (.inr rfl) _).setCell _ (.inr rfl) _).cell (a := ⟨w4.heap.size, 1, none⟩) (World.block_lt_of_cell? _ _ S5.2) (fun e => hne e.symm) |>.trans S5.2⟩
      refine hK.out _ _ S6 (fun hHeld2 => ?_)
      clear hK K
      refine wpAnyH_take (i := 4) (oi := _) (v := .int .i64 (erN n a)) rfl (by kernel_rfl) (by kernel_rfl) (by kernel_rfl) (fun _ _ _ h => h) (Or.inl ⟨by rfl, (by intro w hSw; go_simp)⟩) (by assumption) ?_
      refine wpAnyH_done (by kernel_rfl) ?_ _
      clear hHeld hHeld1 hHeld2 hS S5 S6
      go_wp2_with fail
      refine bodyPost_ret (v := .tuple #[.agg #[.int .i64 (n : Int), .int .i64 a], .int .i64 (erN n a)]) ?_ rfl ?_
      · rw [results_cell_tmp rfl]
        go_simp
      · have F6 : RFr r w ((w5.setCell ⟨w.heap.size, 0, none⟩ (.int .i64 (n : Int))).setCell ⟨w.heap.size, 1, none⟩ (.int .i64 a)) := ((unhide F5).setCell _ (.inl (Nat.le_refl _)) _).setCell _ (.inl (Nat.le_refl _)) _
        rw [unhide eo]
        cases hok : okB n a
        · have her : erN n a = 7 := by simp [erN, hok]
          rw [her]
          exact ⟨n, a, rfl, by decide, F6⟩
        · have her : erN n a = 0 := by simp [erN, hok]
          rw [her]
          refine ⟨rfl, v4, ?_, F6⟩
          have hr2 := (unhide D5).lt
          have hrb2 := unhide HRB
          have ff : Fr (fun k => k = w.heap.size) w5 ((w5.setCell ⟨w.heap.size, 0, none⟩ (.int .i64 (n : Int))).setCell ⟨w.heap.size, 1, none⟩ (.int .i64 a)) := ((Fr.refl (fun k => k = w.heap.size) w5).setCell ⟨w.heap.size, 0, none⟩ (.inr rfl) _).setCell ⟨w.heap.size, 1, none⟩ (.inr rfl) _
          exact (unhide D5).keep ff (by show ¬ r = w.heap.size; omega) (fun b off len cap e q => by have q1 := (unhide D5).ap b off len cap e; have q2 : b = w.heap.size := q; omega)
  · rw [kdI_no hop, isOp_no hop]
    have e1 : rd1 n t = .error 7 := by unfold rd1; rw [isOp_no hop]; rfl
    go_wp2_with fail
    refine bodyPost_ret (v := .tuple #[.agg #[.int .i64 0, .int .i64 0], .int .i64 7]) ?_ rfl ?_
    · rw [results_cell_tmp rfl]
      go_simp
    · rw [unhide ho, e1]
      refine ⟨0, 0, rfl, by decide, ?_⟩
      exact ((unhide F2).setCell _ (.inl (Nat.le_refl _)) _).setCell _ (.inl (Nat.le_refl _)) _
end Go.Proofs.YtpfogphpeegfdaaGreatDoor
