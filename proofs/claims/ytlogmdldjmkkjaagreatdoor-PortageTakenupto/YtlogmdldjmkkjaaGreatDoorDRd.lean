/-
  A reader's calls, told by its state: the bytes that are left, and its error.
-/
import Derived.Test.YtlogmdldjmkkjaaGreatDoorRText
import Derived.Test.YtlogmdldjmkkjaaGreatDoorEnc
namespace Go.Proofs.YtlogmdldjmkkjaaGreatDoor
open Go.RowKit

theorem uform_zero (x : Nat) : Wm.uform 0 x = [(x : Int)] := rfl
theorem uform_lt (f x : Nat) (h : x < 128) : Wm.uform f x = [(x : Int)] := by
  cases f with
  | zero => rfl
  | succ f => rw [Wm.uform, if_pos h]
theorem uform_ge (f x : Nat) (h : ¬ x < 128) : Wm.uform (f + 1) x = ((x % 128 + 128 : Nat) : Int) :: Wm.uform f (x / 128) := by rw [Wm.uform, if_neg h]

/-- What holds of the number that is left at the i-th digit. -/
def Fits (i f x : Nat) : Prop := i + f = 9 ∧ x * 128 ^ i < 2 ^ 64 ∧ (0 < i → 0 < x)
theorem Fits.start (x : Nat) (h : x < 2 ^ 64) : Fits 0 9 x := ⟨rfl, by simpa using h, by omega⟩
theorem Fits.next {i f x : Nat} (h : Fits i (f + 1) x) (hx : ¬ x < 128) : Fits (i + 1) f (x / 128) := by
  obtain ⟨h1, h2, h3⟩ := h
  refine ⟨by omega, ?_, fun _ => by omega⟩
  have : x / 128 * 128 ^ (i + 1) ≤ x * 128 ^ i := by
    rw [Nat.pow_succ, Nat.mul_comm (128 ^ i), ← Nat.mul_assoc]
    exact Nat.mul_le_mul_right _ (Nat.div_mul_le_self x 128)
  omega
theorem Fits.last {i x : Nat} (h : Fits i 0 x) : x = 1 := by
  obtain ⟨h1, h2, h3⟩ := h
  obtain rfl : i = 9 := by omega
  have : (128 : Nat) ^ 9 = 2 ^ 63 := by decide
  rw [this] at h2
  omega

/-- A form is read back, and what lies behind it is left. -/
theorem unum_back : ∀ (f i acc x : Nat) (rest : List Int), Fits i f x → unum i acc (Wm.uform f x ++ rest) = .ok (acc + x * 128 ^ i, rest) := by
  intro f
  induction f with
  | zero =>
    intro i acc x rest h
    have hx := h.last
    subst hx
    rw [uform_zero, List.singleton_append, unum_cons, if_neg (by omega), if_pos (by omega)]
    simp
  | succ f ih =>
    intro i acc x rest h
    by_cases hl : x < 128
    · rw [uform_lt _ _ hl, List.singleton_append, unum_cons, if_neg ?_, if_pos (by omega)]
      · rw [Int.toNat_natCast, Nat.mod_eq_of_lt hl]
      · have := h.1
        have := h.2.2
        omega
    · rw [uform_ge _ _ hl, List.cons_append, unum_cons, if_neg ?_, if_neg (by omega), ih (i + 1) _ (x / 128) rest (h.next hl)]
      · rw [Int.toNat_natCast]
        have e : acc + (x % 128 + 128) % 128 * 128 ^ i + x / 128 * 128 ^ (i + 1) = acc + x * 128 ^ i := by
          rw [show (x % 128 + 128) % 128 = x % 128 from by omega, Nat.pow_succ, Nat.mul_comm (128 ^ i) 128, ← Nat.mul_assoc, Nat.add_assoc, ← Nat.add_mul]
          congr 2
          omega
        rw [e]
      · have := h.1
        omega

theorem unum_form (x : Nat) (rest : List Int) (h : x < 2 ^ 64) : unum 0 0 (Wm.uform 9 x ++ rest) = .ok (x, rest) := by
  rw [unum_back 9 0 0 x rest (Fits.start x h)]; simp

theorem uform_bok : ∀ f x, x < 128 * 128 ^ f → BOk (Wm.uform f x) := by
  intro f
  induction f with
  | zero => intro x hx b hb; simp [Wm.uform] at hb hx; omega
  | succ f ih =>
    intro x hx b hb
    by_cases hl : x < 128
    · rw [uform_lt _ _ hl] at hb; simp at hb; omega
    · rw [uform_ge _ _ hl] at hb
      rcases List.mem_cons.1 hb with rfl | hb
      · omega
      · exact ih (x / 128) (by rw [Nat.pow_succ] at hx; omega) b hb
theorem strI_bok (s : ByteArray) : BOk (strI s) := by
  intro b hb
  simp only [strI, List.mem_map] at hb
  obtain ⟨u, _, rfl⟩ := hb
  have := u.toNat_lt
  omega
theorem wpre_bok (x j : Nat) : BOk (wpre x j) := by
  intro b hb
  simp only [wpre, List.mem_map] at hb
  obtain ⟨i, _, rfl⟩ := hb
  omega
theorem BOk.append {a b : List Int} (ha : BOk a) (hb : BOk b) : BOk (a ++ b) := fun x hx => by
  rcases List.mem_append.1 hx with h | h
  · exact ha x h
  · exact hb x h
theorem BOk.take {a : List Int} (ha : BOk a) (n : Nat) : BOk (a.take n) := fun x hx => ha x (List.mem_of_mem_take hx)
theorem BOk.drop {a : List Int} (ha : BOk a) (n : Nat) : BOk (a.drop n) := fun x hx => ha x (List.mem_of_mem_drop hx)
theorem unum_inv : ∀ (bs : List Int) (i acc x : Nat) (t : List Int), i ≤ 9 → BOk bs → unum i acc bs = .ok (x, t) → ∃ y, x = acc + y * 128 ^ i ∧ Wm.uform (9 - i) y ++ t = bs ∧ (0 < i → 0 < y) := by
  intro bs
  induction bs with
  | nil => intro i acc x t _ _ h; simp [unum] at h
  | cons b l ih =>
    intro i acc x t hi hB h
    have hb := hB b (by simp)
    rw [unum_cons] at h
    split at h
    · cases h
    · rename_i hn
      split at h
      · rename_i hlt
        cases h
        refine ⟨b.toNat, by rw [Nat.mod_eq_of_lt (by omega)], ?_, fun hi0 => ?_⟩
        · rw [uform_lt _ _ (by omega)]
          have : ((b.toNat : Nat) : Int) = b := by omega
          rw [this]; rfl
        · have : b ≠ 0 := fun e => hn (.inr ⟨hi0, e⟩)
          omega
      · rename_i hge
        have hi9 : i ≠ 9 := fun e => hn (.inl ⟨e, by omega⟩)
        obtain ⟨y, h1, h2, h3⟩ := ih (i + 1) _ x t (by omega) (fun c hc => hB c (by simp [hc])) h
        have hy := h3 (by omega)
        refine ⟨b.toNat % 128 + 128 * y, ?_, ?_, fun _ => by omega⟩
        · rw [h1, Nat.pow_succ, Nat.add_mul, Nat.mul_comm (128 ^ i) 128, ← Nat.mul_assoc, Nat.mul_comm y 128, Nat.add_assoc]
        · rw [show 9 - i = (9 - (i + 1)) + 1 from by omega, uform_ge _ _ (by omega), show (b.toNat % 128 + 128 * y) / 128 = y from by omega, List.cons_append, h2]
          have : (((b.toNat % 128 + 128 * y) % 128 + 128 : Nat) : Int) = b := by omega
          rw [this]

theorem unum_one (bs : List Int) (x : Nat) (t : List Int) (hB : BOk bs) (h : unum 0 0 bs = .ok (x, t)) : Wm.uform 9 x ++ t = bs := by
  obtain ⟨y, h1, h2, _⟩ := unum_inv bs 0 0 x t (by omega) hB h
  have : x = y := by simpa using h1
  rw [this]; exact h2
/-- One read and the write of its answer. -/
structure Step (bs : List Int) (e0 : Int) (form left : List Int) (e : Int) : Prop where
  ok : BOk left
  same : e = 0 → e0 = 0 ∧ form ++ left = bs
  len : form.length + left.length ≤ bs.length + 8

theorem unum_err (i acc : Nat) (bs : List Int) (k : Int) (h : unum i acc bs = .error k) : k ≠ 0 := by
  induction bs generalizing i acc with
  | nil => simp [unum] at h; omega
  | cons b l ih =>
    rw [unum_cons] at h
    split at h
    · cases h; omega
    · split at h
      · cases h
      · exact ih _ _ h

set_option linter.unusedVariables false

/-- An unsigned number as a signed one. -/
def sI (x : Nat) : Int := wrap64 (x : Int)
/-- The operand of a kind, out of bytes. -/
def opR (k : Nat) (t : List Int) : Except Int (Int × List Int) :=
  if k = 0 then .ok (0, t) else match unum 0 0 t with
    | .error e => .error e
    | .ok (x, t') => .ok (if k = 1 then unfoldI x else sI x, t')
/-- One instruction, out of bytes. -/
def rd1 (b : Int) (t : List Int) : Except Int ((Int × Int) × List Int) :=
  if isOp b then match opR (kd b.toNat) t with
    | .error e => .error e
    | .ok (a, t') => if okB b a then .ok ((b, a), t') else .error 7
  else .error 7

def ReadPost (r rb : Nat) (w : World) (o : Except Int (Int × List Int)) (e : Ending) (w' : World) : Prop :=
  match o with
  | .ok (a, t) => e = .returned (.int .i64 a) ∧ ∃ v2, Rdr w' r rb v2 t 0 ∧ RFr r w w'
  | .error k => ∃ x, e = .returned (.int .i64 x) ∧ ∃ v2 t, Rdr w' r rb v2 t k ∧ RFr r w w'

set_option maxRecDepth 100000 in
set_option maxHeartbeats 4000000 in
theorem read_any (k : Nat) (r : Nat) {rb : Nat} (v : Value) (bs : List Int) (w : World) (h : Rdr w r rb v bs 0) (hB : BOk bs) :
    Calls Tryz.prog (rF k) #[.pointer (some ⟨r, 0, none⟩)] w fun e w' => ReadPost r rb w (opR k bs) e w' := by
  by_cases h0 : k = 0
  · subst h0
    have e : opR 0 bs = .ok (0, bs) := rfl
    rw [e]
    have hh := hide h
    clear e h hB
    show Calls Tryz.prog 160 _ _ _
    go_enter Tryz.func160, Tryz.ntmps160
    go_wp2
    go_ret
    exact ⟨rfl, v, unhide hh, RFr.refl _ _⟩
  · by_cases h1 : k = 1
    · subst h1
      refine (rInt_any r v bs 0 w h hB).mono ?_
      rintro e w' ⟨he, v2, hR, hF⟩
      have eo : opR 1 bs = match unum 0 0 bs with | .error e => .error e | .ok (x, t') => .ok (unfoldI x, t') := by simp [opR]
      rw [eo]
      cases hu : unum 0 0 bs with
      | error k =>
        rw [hu] at he hR
        exact ⟨0, he, v2, _, hR, hF⟩
      | ok q =>
        rw [hu] at he hR
        exact ⟨he, v2, hR, hF⟩
    · have e1 : rF k = 164 := by unfold rF; rw [if_neg h0, if_neg h1]
      have eo : opR k bs = match unum 0 0 bs with | .error e => .error e | .ok (x, t') => .ok (sI x, t') := by simp [opR, h0, h1]
      rw [e1, eo]
      have h1 := rUint_any r v bs 0 w h hB
      cases hu : unum 0 0 bs with
      | error kk =>
        rw [hu] at h1
        have H1 : Hid (Calls Tryz.prog 165 #[.pointer (some ⟨r, 0, none⟩)] w fun e w' => e = .returned (.int .u64 0) ∧ ∃ v2, Rdr w' r rb v2 bs kk ∧ RFr r w w') := h1
        clear e1 eo h0 h1 h hB hu
        go_enter Tryz.func164, Tryz.ntmps164
        go_wp2_with fail
        refine (unhide H1).mono ?_
        rintro e w' ⟨rfl, v2, hR, hF⟩
        have HR := hide hR
        have HF := hide hF
        clear hR hF
        go_wp2_with fail
        go_ret
        exact ⟨_, rfl, v2, _, unhide HR, unhide HF⟩
      | ok q =>
        obtain ⟨x, t⟩ := q
        rw [hu] at h1
        have H1 : Hid (Calls Tryz.prog 165 #[.pointer (some ⟨r, 0, none⟩)] w fun e w' => e = .returned (.int .u64 (x : Int)) ∧ ∃ v2, Rdr w' r rb v2 t 0 ∧ RFr r w w') := h1
        clear e1 eo h0 h1 h hB hu
        go_enter Tryz.func164, Tryz.ntmps164
        go_wp2_with fail
        refine (unhide H1).mono ?_
        rintro e w' ⟨rfl, v2, hR, hF⟩
        have HR := hide hR
        have HF := hide hF
        clear hR hF
        go_wp2_with fail
        go_ret
        exact ⟨rfl, v2, unhide HR, unhide HF⟩

theorem opR_err {k : Nat} {t : List Int} {e : Int} (h : opR k t = .error e) : e ≠ 0 := by
  unfold opR at h
  split at h
  · cases h
  · split at h
    · rename_i e' hu
      cases h
      exact unum_err _ _ _ _ hu
    · cases h
/-- A block of two cells. -/
structure Bk (W : World) (g : Nat) : Prop where
  ex : ∃ x y, W.heap[g]? = some (.cells #[x, y] 92 (0, 0))
theorem Bk.fr {S : Nat → Prop} {w w' : World} {g : Nat} (h : Bk w g) (f : Fr S w w') (hn : ¬ S g) : Bk w' g := by
  obtain ⟨x, y, e⟩ := h.ex
  exact ⟨x, y, by rw [f.block g (Array.getElem?_eq_some_iff.1 e).1 hn]; exact e⟩
theorem Bk.below {w w' : World} {g : Nat} (h : Bk w g) (f : Below w.heap.size w w') : Bk w' g := h.fr (Fr.of_below (S := fun _ => False) f) (by simp)
theorem Bk.c0 {w : World} {g : Nat} (h : Bk w g) : ∃ x, w.cell? ⟨g, 0, none⟩ = some x := by
  obtain ⟨x, y, e⟩ := h.ex
  exact ⟨x, by simp [World.cell?, e]⟩
theorem Bk.c1 {w : World} {g : Nat} (h : Bk w g) : ∃ x, w.cell? ⟨g, 1, none⟩ = some x := by
  obtain ⟨x, y, e⟩ := h.ex
  exact ⟨y, by simp [World.cell?, e]⟩
theorem Bk.f0 {w : World} {g : Nat} (h : Bk w g) : w.frozen? ⟨g, 0, none⟩ = false := by
  obtain ⟨x, y, e⟩ := h.ex
  simp [World.frozen?, e]
theorem Bk.f1 {w : World} {g : Nat} (h : Bk w g) : w.frozen? ⟨g, 1, none⟩ = false := by
  obtain ⟨x, y, e⟩ := h.ex
  simp [World.frozen?, e]
theorem Bk.lt {w : World} {g : Nat} (h : Bk w g) : g < w.heap.size := by
  obtain ⟨x, y, e⟩ := h.ex
  exact (Array.getElem?_eq_some_iff.1 e).1
theorem Bk.new (w : World) (x y : Value) : Bk (w.alloc (.cells #[x, y] 92)) w.heap.size := ⟨x, y, heap_alloc_new w _⟩

def NextPost (r rb : Nat) (w : World) (o : Except Int ((Int × Int) × List Int)) (e : Ending) (w' : World) : Prop :=
  match o with
  | .ok ((op, a), t) => e = .returned (.tuple #[.agg #[.int .i64 op, .int .i64 a], .int .i64 0]) ∧ ∃ v2, Rdr w' r rb v2 t 0 ∧ RFr r w w'
  | .error k => ∃ x y, e = .returned (.tuple #[.agg #[.int .i64 x, .int .i64 y], .int .i64 k]) ∧ k ≠ 0 ∧ RFr r w w'

set_option maxRecDepth 100000 in
set_option maxHeartbeats 4000000 in
theorem next_any (r : Nat) {rb : Nat} (v : Value) (b : Int) (t : List Int) (w : World) (h : Rdr w r rb v (b :: t) 0) (hB : BOk (b :: t)) (hrb : rb < w.heap.size) :
    Calls Tryz.prog 184 #[.pointer (some ⟨r, 0, none⟩)] w fun e w' => NextPost r rb w (rd1 b t) e w' := by
  have hr := h.lt
  have h1 : Rdr (w.alloc (.cells #[.int .i64 0, .int .i64 0] 92)) r rb v (b :: t) 0 := h.keep (S := fun _ => False) ((Fr.refl _ w).alloc _) (by simp) (by simp)
  have H1 := hide (rByte_any r v (b :: t) 0 _ h1)
  have HBt : Hid (BOk t) := fun x hx => hB x (List.mem_cons_of_mem _ hx)
  have hb0 := hB b (List.mem_cons_self ..)
  have HO := hide operand_any
  have HF := hide formOf_any
  have F0 : Hid (Fr (fun k => k = r) w (w.alloc (.cells #[.int .i64 0, .int .i64 0] 92))) := (Fr.refl _ w).alloc _
  have Q0 := hide (Bk.new w (.int .i64 0) (.int .i64 0))
  have HRB := hide hrb
  obtain ⟨n, rfl⟩ : ∃ n : Nat, b = n := ⟨b.toNat, by omega⟩
  obtain ⟨o, ho⟩ : ∃ o, Hid (o = rd1 n t) := ⟨_, rfl⟩
  rw [← unhide ho]
  clear h h1 hB hrb
  go_enter Tryz.func184, Tryz.ntmps184
  go_wp2_with fail
  refine (unhide H1).mono ?_
  rintro e w1 ⟨he, v1, hR1, hF1⟩
  have he' : e = .returned (.int .u8 (n : Int)) := he
  have D1 : Hid (Rdr w1 r rb v1 t 0) := hR1
  have F1 := hide ((unhide F0).trans hF1)
  have Q1 := hide ((unhide Q0).fr hF1 (by omega))
  subst he'
  clear he hR1 hF1 H1 F0 Q0
  go_wp2_with fail
  refine (unhide HO _ _).mono ?_
  rintro e w2 ⟨rfl, hb2⟩
  have D2 := hide ((unhide D1).keep (S := fun _ => False) (Fr.of_below hb2) (by simp) (by simp))
  have F2 := hide ((unhide F1).trans (Fr.of_below hb2))
  have q2 := (unhide Q1).below hb2
  obtain ⟨x0, c0⟩ := q2.c0
  obtain ⟨x1, c1⟩ := q2.c1
  have f0 := q2.f0
  have f1 := q2.f1
  have Q2 := hide q2
  clear hb2 D1 F1 Q1 q2
  by_cases hop : 0 ≤ (n : Int) ∧ (n : Int) < 67
  · have hn : n < 67 := by omega
    rw [kdI_nat hn, isOp_nat hn]
    have eO : Hid (rd1 n t = match opR (kd n) t with | .error e => .error e | .ok (a, t') => if okB n a then .ok (((n : Int), a), t') else .error 7) := by
      unfold Hid rd1; rw [isOp_nat hn]; rfl
    have hent := enterR (kd n)
    have hf1 : ∀ (a b : Value) (w : World), (Instr.field 195 (.agg #[a, b]) 1).run Tryz.prog w = .ok b w := fun a b w => by kernel_rfl
    clear c0 c1 f0 f1
    go_wp2_with fail
    refine (unhide HF _ _).mono ?_
    rintro e w3 ⟨rfl, hb3⟩
    have HRd := hide (read_any (kd n) r v1 t w3 ((unhide D2).keep (S := fun _ => False) (Fr.of_below hb3) (by simp) (by simp)) (unhide HBt))
    have F3 := hide ((unhide F2).trans (Fr.of_below hb3))
    have Q3 := hide ((unhide Q2).below hb3)
    clear hb3 D2 F2 Q2
    go_wp2_with fail
    refine (unhide HRd).mono ?_
    intro e w4 hp
    cases hr4 : opR (kd n) t with
    | error er =>
      rw [hr4] at hp
      obtain ⟨x, rfl, v4, t4, hD4, hF4⟩ := hp
      have her : er ≠ 0 := opR_err hr4
      have eo : Hid (o = .error er) := by unfold Hid; rw [unhide ho, unhide eO, hr4]
      have F4 := hide (((unhide F3).trans hF4).alloc (.cells #[.int .i64 (n : Int), .int .i64 x] 92))
      have q4 := ((unhide Q3).fr hF4 (by omega)).fr ((Fr.refl (fun _ => False) w4).alloc (.cells #[.int .i64 (n : Int), .int .i64 x] 92)) (by simp)
      have HE := hide (rErr_any r v4 t4 er (w4.alloc (.cells #[.int .i64 (n : Int), .int .i64 x] 92)) (hD4.keep (S := fun _ => False) ((Fr.refl _ w4).alloc _) (by simp) (by simp)))
      obtain ⟨x0, c0⟩ := q4.c0
      obtain ⟨x1, c1⟩ := q4.c1
      have f0 := q4.f0
      have f1 := q4.f1
      have her' : (er != 0) = true := by simpa using her
      have HER := hide her
      clear hD4 hF4 hr4 eO ho F3 Q3 q4 her HRd
      go_wp2_with fail
      refine (unhide HE).mono ?_
      rintro e w5 ⟨rfl, rfl⟩
      go_wp2_with fail
      refine bodyPost_ret (v := .tuple #[.agg #[.int .i64 0, .int .i64 0], .int .i64 er]) ?_ rfl ?_
      · rw [results_cell_tmp rfl]
        go_simp
      · rw [unhide eo]
        exact ⟨0, 0, rfl, unhide HER, ((unhide F4).setCell _ (.inl (Nat.le_refl _)) _).setCell _ (.inl (Nat.le_refl _)) _⟩
    | ok q =>
      obtain ⟨a, t4⟩ := q
      rw [hr4] at hp
      obtain ⟨rfl, v4, hD4, hF4⟩ := hp
      have eo : Hid (o = if okB n a then .ok (((n : Int), a), t4) else .error 7) := by unfold Hid; rw [unhide ho, unhide eO, hr4]
      have F4 := hide (((unhide F3).trans hF4).alloc (.cells #[.int .i64 (n : Int), .int .i64 a] 92))
      have q3' := (unhide Q3).fr hF4 (by omega)
      have Q3' := hide q3'
      have Q4 := hide (q3'.fr ((Fr.refl (fun _ => False) w4).alloc (.cells #[.int .i64 (n : Int), .int .i64 a] 92)) (by simp))
      have d4 : Rdr (w4.alloc (.cells #[.int .i64 (n : Int), .int .i64 a] 92)) r rb v4 t4 0 := hD4.keep (S := fun _ => False) ((Fr.refl _ w4).alloc _) (by simp) (by simp)
      have HE := hide (rErr_any r v4 t4 0 _ d4)
      have D4 := hide d4
      have HCk := hide (fun w => check_any w n a)
      have hS : (w4.alloc (.cells #[.int .i64 (n : Int), .int .i64 a] 92)).cell? ⟨w4.heap.size, 0, none⟩ = some (.int .i64 (n : Int)) ∧ (w4.alloc (.cells #[.int .i64 (n : Int), .int .i64 a] 92)).cell? ⟨w4.heap.size, 1, none⟩ = some (.int .i64 a) := ⟨by simp, by simp⟩
      clear hD4 hF4 hr4 eO ho F3 Q3 q3' d4 HRd
      go_wp2_with fail
      refine (unhide HE).mono ?_
      rintro e w5' ⟨rfl, rfl⟩
      go_wp2_with fail
      refine wp_region_held_drew (S := (fun wx => wx.cell? ⟨w4.heap.size, 0, none⟩ = some (.int .i64 (n : Int)) ∧ wx.cell? ⟨w4.heap.size, 1, none⟩ = some (.int .i64 a))) (by kernel_rfl) hS (fun hHeld => ?_)
      refine wpAnyH_take (i := 0) (oi := _) (v := .agg #[.int .i64 (n : Int), .int .i64 a]) rfl (by kernel_rfl) (by kernel_rfl) (by kernel_rfl) (fun _ _ _ h => h) (Or.inl ⟨by rfl, (by intro w hSw; obtain ⟨hs0, hs1⟩ := hSw; go_simp)⟩) (by assumption) ?_
      refine wpAnyH_take (i := 1) (oi := _) (v := .agg #[.int .i64 (n : Int), .int .i64 a]) rfl (by kernel_rfl) (by kernel_rfl) (by kernel_rfl) (fun _ _ _ h => h) (Or.inl ⟨by rfl, (by intro w hSw; obtain ⟨hs0, hs1⟩ := hSw; go_simp)⟩) (by assumption) ?_
      go_simp
      refine wpAnyH_ready (rs := [2]) (by kernel_rfl) (by simp) ?_
      refine AllReadyH.cons (o := _) rfl (fun K hK => ?_) AllReadyH.nil
      go_simp
      refine (unhide HCk _).mono ?_
      rintro e w5 ⟨rfl, hb5⟩
      have hb5' : Below (w4.alloc (.cells #[.int .i64 (n : Int), .int .i64 a] 92)).heap.size (w4.alloc (.cells #[.int .i64 (n : Int), .int .i64 a] 92)) w5 := Below.drewB hb5
      have S5 : w5.cell? ⟨w4.heap.size, 0, none⟩ = some (.int .i64 (n : Int)) ∧ w5.cell? ⟨w4.heap.size, 1, none⟩ = some (.int .i64 a) := ⟨(hb5'.cell (p := ⟨w4.heap.size, 0, none⟩) (by simp)).trans hS.1, (hb5'.cell (p := ⟨w4.heap.size, 1, none⟩) (by simp)).trans hS.2⟩
      have F5 := hide ((unhide F4).trans (Fr.of_below hb5'))
      have q5 := (unhide Q4).below hb5'
      have D5 := hide ((unhide D4).keep (S := fun _ => False) (Fr.of_below hb5') (by simp) (by simp))
      obtain ⟨y0, c0⟩ := q5.c0
      obtain ⟨y1, c1⟩ := q5.c1
      have f0 := q5.f0
      have f1 := q5.f1
      have hne : w.heap.size ≠ w4.heap.size := by have := (unhide Q3').lt; omega
      clear hb5 hb5' q5
      go_simp
      refine hK.out _ _ S5 (fun hHeld1 => ?_)
      clear hK K
      refine wpAnyH_ready (rs := [3]) (by kernel_rfl) (by simp) ?_
      refine AllReadyH.cons (o := _) rfl (fun K hK => ?_) AllReadyH.nil
      go_simp
      have S6 : ((w5.setCell ⟨w.heap.size, 0, none⟩ (.int .i64 (n : Int))).setCell ⟨w.heap.size, 1, none⟩ (.int .i64 a)).cell? ⟨w4.heap.size, 0, none⟩ = some (.int .i64 (n : Int)) ∧ ((w5.setCell ⟨w.heap.size, 0, none⟩ (.int .i64 (n : Int))).setCell ⟨w.heap.size, 1, none⟩ (.int .i64 a)).cell? ⟨w4.heap.size, 1, none⟩ = some (.int .i64 a) := ⟨(((Fr.refl (fun k => k = w.heap.size) w5).setCell _ (.inr rfl) _).setCell _ (.inr rfl) _).cell (a := ⟨w4.heap.size, 0, none⟩) (World.block_lt_of_cell? _ _ S5.1) (fun e => hne e.symm) |>.trans S5.1, (((Fr.refl (fun k => k = w.heap.size) w5).setCell _ (.inr rfl) _).setCell _ (.inr rfl) _).cell (a := ⟨w4.heap.size, 1, none⟩) (World.block_lt_of_cell? _ _ S5.2) (fun e => hne e.symm) |>.trans S5.2⟩
      refine hK.out _ _ S6 (fun hHeld2 => ?_)
      clear hK K
      refine wpAnyH_take (i := 4) (oi := _) (v := .int .i64 (erN n a)) rfl (by kernel_rfl) (by kernel_rfl) (by kernel_rfl) (fun _ _ _ h => h) (Or.inl ⟨by rfl, (by intro w hSw; go_simp)⟩) (by assumption) ?_
      refine wpAnyH_done (by kernel_rfl) ?_ _
      clear hHeld hHeld1 hHeld2 hS S5 S6
      go_wp2_with fail
      refine bodyPost_ret (v := .tuple #[.agg #[.int .i64 (n : Int), .int .i64 a], .int .i64 (erN n a)]) ?_ rfl ?_
      · rw [results_cell_tmp rfl]
        go_simp
      · have F6 : RFr r w ((w5.setCell ⟨w.heap.size, 0, none⟩ (.int .i64 (n : Int))).setCell ⟨w.heap.size, 1, none⟩ (.int .i64 a)) := ((unhide F5).setCell _ (.inl (Nat.le_refl _)) _).setCell _ (.inl (Nat.le_refl _)) _
        rw [unhide eo]
        cases hok : okB n a
        · have her : erN n a = 7 := by simp [erN, hok]
          rw [her]
          exact ⟨n, a, rfl, by decide, F6⟩
        · have her : erN n a = 0 := by simp [erN, hok]
          rw [her]
          refine ⟨rfl, v4, ?_, F6⟩
          have hr2 := (unhide D5).lt
          have hrb2 := unhide HRB
          have ff : Fr (fun k => k = w.heap.size) w5 ((w5.setCell ⟨w.heap.size, 0, none⟩ (.int .i64 (n : Int))).setCell ⟨w.heap.size, 1, none⟩ (.int .i64 a)) := ((Fr.refl (fun k => k = w.heap.size) w5).setCell ⟨w.heap.size, 0, none⟩ (.inr rfl) _).setCell ⟨w.heap.size, 1, none⟩ (.inr rfl) _
          exact (unhide D5).keep ff (by show ¬ r = w.heap.size; omega) (fun b off len cap e q => by have q1 := (unhide D5).ap b off len cap e; have q2 : b = w.heap.size := q; omega)
  · rw [kdI_no hop, isOp_no hop]
    have e1 : rd1 n t = .error 7 := by unfold rd1; rw [isOp_no hop]; rfl
    go_wp2_with fail
    refine bodyPost_ret (v := .tuple #[.agg #[.int .i64 0, .int .i64 0], .int .i64 7]) ?_ rfl ?_
    · rw [results_cell_tmp rfl]
      go_simp
    · rw [unhide ho, e1]
      refine ⟨0, 0, rfl, by decide, ?_⟩
      exact ((unhide F2).setCell _ (.inl (Nat.le_refl _)) _).setCell _ (.inl (Nat.le_refl _)) _

set_option linter.unusedVariables false

/-- A list of instructions, out of bytes. -/
def decG : Nat → List (Int × Int) → List Int → Except Int (List (Int × Int))
  | 0, acc, _ => .ok acc
  | f + 1, acc, [] => .ok acc
  | f + 1, acc, b :: t => if acc.length = 2000 then .error 5 else match rd1 b t with
    | .error e => .error e
    | .ok (p, t') => decG f (acc ++ [p]) t'
def dec (B : List Int) : Except Int (List (Int × Int)) := decG (B.length + 1) [] B
def errOf (o : Except Int (List (Int × Int))) : Int := match o with | .ok _ => 0 | .error e => e
def lstOf (o : Except Int (List (Int × Int))) : List (Int × Int) := match o with | .ok l => l | .error _ => []

theorem opR_ok {k : Nat} {t t' : List Int} {a : Int} (hB : BOk t) (h : opR k t = .ok (a, t')) : BOk t' ∧ t'.length ≤ t.length := by
  unfold opR at h
  split at h
  · cases h; exact ⟨hB, Nat.le_refl _⟩
  · split at h
    · cases h
    · rename_i x t2 hu
      cases h
      refine ⟨(unum_lt 0 0 t x t' (by omega) (by decide) hB hu).2, ?_⟩
      have := congrArg List.length (unum_one t x t' hB hu)
      rw [List.length_append] at this
      omega
theorem rd1_ok {b : Int} {t t' : List Int} {p : Int × Int} (hB : BOk t) (h : rd1 b t = .ok (p, t')) : BOk t' ∧ t'.length ≤ t.length ∧ p.1 = b ∧ okB p.1 p.2 = true ∧ opR (kd b.toNat) t = .ok (p.2, t') ∧ isOp b = true := by
  unfold rd1 at h
  split at h
  · rename_i hop
    split at h
    · cases h
    · rename_i a t2 hu
      split at h
      · rename_i hok
        cases h
        obtain ⟨q1, q2⟩ := opR_ok hB hu
        exact ⟨q1, q2, rfl, hok, hu, hop⟩
      · cases h
  · cases h
theorem decG_nil (f : Nat) (acc : List (Int × Int)) : decG f acc [] = .ok acc := by cases f <;> rfl

/-- A reader of one's own and a list that grows. -/
structure DJ (w : World) (r rb : Nat) (acc : List (Int × Int)) (v : Value) (rest : List Int) (vr : Value) (wr : World) : Prop where
  rdr : Rdr wr r rb vr rest 0
  row : Ro wr 2 v acc.length (flat acc)
  bel : Below w.heap.size w wr
  own : ∀ k, v.ownBlock = some k → w.heap.size ≤ k ∧ k ≠ r ∧ k ≠ rb
  rlo : w.heap.size ≤ r
theorem Rdr.rb_lt {w : World} {r rb : Nat} {v : Value} {b : Int} {t : List Int} {e : Int} (h : Rdr w r rb v (b :: t) e) : rb < w.heap.size := by
  rcases h.rd with ⟨_, q⟩ | ⟨b0, off, cap, e, _, _, q, _⟩
  · cases q
  · have := h.ap b0 off _ cap e
    omega
theorem Fr.row2 {S : Nat → Prop} {w w' : World} {v : Value} {n : Nat} {xs : List Value} (h : Ro w 2 v n xs) (f : Fr S w w') (hn : ∀ k, v.ownBlock = some k → ¬ S k) : Ro w' 2 v n xs := h.keep (fun g hg => f.block g (h.lt g hg) (hn g hg))

def DecPost (w : World) (o : Except Int (List (Int × Int))) (e : Ending) (w' : World) : Prop :=
  ∃ v', e = .returned (.tuple #[v', .int .i64 (errOf o)]) ∧ Gw w (lstOf o) v' w'
theorem Gw.nil {w wr : World} (h : Below w.heap.size w wr) : Gw w [] (.slice none 0 0) wr := ⟨by simpa [flat] using Ro.nil _ _, h, by simp [Value.ownBlock]⟩

set_option maxRecDepth 100000 in
set_option maxHeartbeats 4000000 in
theorem decode_any (bv : Value) (B : List Int) (w : World) (hR : Rd w bv B) (hB : BOk B) (hN : B.length ≤ 140737488355328) :
    Calls Tryz.prog 140 #[bv] w fun e w' => DecPost w (dec B) e w' := by
  have HNR := hide (newReader_any bv B w hR hN)
  have HBB := hide hB
  obtain ⟨o, ho⟩ : ∃ o, Hid (o = dec B) := ⟨_, rfl⟩
  rw [← unhide ho]
  obtain ⟨N, hNN⟩ : ∃ N, Hid (N = B.length) := ⟨_, rfl⟩
  clear hR hB hN
  go_enter Tryz.func140, Tryz.ntmps140
  go_wp2_with fail
  refine (unhide HNR).mono ?_
  rintro e w1 ⟨r, rb, v2, rfl, h1, h2, h3, h4⟩
  have J0 : Hid (DJ w r rb [] (.slice none 0 0) B v2 w1) := ⟨h3, by simpa [flat] using Ro.nil _ _, h4, by simp [Value.ownBlock], h1⟩
  clear h1 h2 h3 h4 HNR
  go_wp2_with fail
  go_loopg [5] N (fun g t5 wr => ∃ (acc : List (Int × Int)) (rest : List Int) (v vr : Value) (f : Nat), Hid (rest.length = g ∧ rest.length < f ∧ acc.length ≤ 2000 ∧ BOk rest) ∧ t5 = v ∧ Hid (o = decG f acc rest) ∧ Hid (DJ w r rb acc v rest vr wr))
  case atStart => exact ⟨[], B, _, v2, B.length + 1, ⟨(unhide hNN).symm, by omega, by simp, unhide HBB⟩, rfl, unhide ho, unhide J0⟩
  case round =>
    clear J0
    obtain ⟨acc, rest, v, vr, f, hM, rfl, hO, hJ⟩ := hrel
    have HLf := hide (rLeft_any r vr rest 0 wr (unhide hJ).rdr)
    obtain ⟨va, vc, ve, vl, _⟩ := (unhide hJ).row.shape
    cases rest with
    | nil =>
      have HO : Hid (o = .ok acc) := by unfold Hid; rw [unhide hO, decG_nil]
      have HL0 : Hid (Calls Tryz.prog 183 #[.pointer (some ⟨r, 0, none⟩)] wr fun e w' => e = .returned (.int .i64 0) ∧ w' = wr) := unhide HLf
      clear HLf hO ve vl
      go_wp2_with fail
      refine (unhide HL0).mono ?_
      rintro e w2 ⟨rfl, rfl⟩
      go_wp2_with fail
      go_ret2
      rw [unhide HO]
      exact ⟨_, rfl, (unhide hJ).row, (unhide hJ).bel, fun k hk => ((unhide hJ).own k hk).1⟩
    | cons b t =>
      obtain ⟨L, hL⟩ : ∃ L : Nat, Hid (((b :: t).length : Int) = (L : Int) ∧ 0 < L) := ⟨t.length + 1, by unfold Hid; simp⟩
      rw [(unhide hL).1] at HLf
      have hL0 := (unhide hL).2
      obtain ⟨A, hA⟩ : ∃ A, Hid (acc.length = A) := ⟨_, rfl⟩
      rw [unhide hA] at ve vl
      subst ve
      have HNx := hide (next_any r vr b t wr (unhide hJ).rdr (unhide hM).2.2.2 (unhide hJ).rdr.rb_lt)
      obtain ⟨f', rfl⟩ : ∃ f', f = f' + 1 := ⟨f - 1, by have := unhide hM; omega⟩
      have hOO : Hid (o = if acc.length = 2000 then .error 5 else match rd1 b t with
        | .error e => .error e
        | .ok (p, t') => decG f' (acc ++ [p]) t') := unhide hO
      by_cases hfull : A = 2000
      · have HO : Hid (o = .error 5) := by unfold Hid; rw [unhide hOO, if_pos (by rw [unhide hA]; exact hfull)]
        subst hfull
        clear hOO hO
        go_wp2_with fail
        refine (unhide HLf).mono ?_
        rintro e w2 ⟨rfl, rfl⟩
        go_wp2_with fail
        go_ret2
        rw [unhide HO]
        exact ⟨_, rfl, Gw.nil (unhide hJ).bel⟩
      · have hf' : ((A : Int) == 2000) = false := by simp; omega
        have hO2 : Hid (o = match rd1 b t with
          | .error e => .error e
          | .ok (p, t') => decG f' (acc ++ [p]) t') := by unfold Hid; rw [unhide hOO, if_neg (by rw [unhide hA]; exact hfull)]
        clear hOO hO
        have hmv := unhide HNx
        cases hrd : rd1 b t with
        | error er =>
          rw [hrd] at hmv
          have HNx2 := hide hmv
          have HO : Hid (o = .error er) := by unfold Hid; rw [unhide hO2, hrd]
          clear hmv HNx hO2
          go_wp2_with fail
          refine (unhide HLf).mono ?_
          rintro e w2 ⟨rfl, rfl⟩
          go_wp2_with fail
          refine (unhide HNx2).mono ?_
          rintro e w3 ⟨x, y, rfl, her, hF3⟩
          have her' : (er != 0) = true := by simpa using her
          have F3 := hide hF3
          clear her hF3
          go_wp2_with fail
          go_ret2
          rw [unhide HO]
          refine ⟨_, rfl, Gw.nil ?_⟩
          have hb := (unhide hJ).bel
          exact (hb.trans ((unhide F3).below hb.size (fun k hk e => by have := (unhide hJ).rlo; omega))).alloc (by have := (unhide F3).size; have := hb.size; omega) _
        | ok q =>
          obtain ⟨⟨op, a⟩, t'⟩ := q
          rw [hrd] at hmv
          have HNx2 := hide hmv
          have HO : Hid (o = decG f' (acc ++ [(op, a)]) t') := by unfold Hid; rw [unhide hO2, hrd]
          have HT := hide (rd1_ok (fun x hx => (unhide hM).2.2.2 x (List.mem_cons_of_mem _ hx)) hrd)
          clear hmv HNx hO2
          go_wp2_with fail
          refine (unhide HLf).mono ?_
          rintro e w2 ⟨rfl, rfl⟩
          go_wp2_with fail
          refine (unhide HNx2).mono ?_
          rintro e w3 ⟨rfl, v3, hD3, hF3⟩
          have hrow3 : Ro w3 2 (.slice va A vc) acc.length (flat acc) := Fr.row2 (unhide hJ).row hF3 (fun k hk e => ((unhide hJ).own k hk).2.1 e)
          have HRo := hide hrow3
          have D3 := hide hD3
          have F3 := hide hF3
          have HRo2 : Hid (Ro ((w3.alloc (.cells #[.int .i64 op, .int .i64 a] 92)).alloc (.cells #[.int .i64 op, .int .i64 a] 92)) 2 (.slice va A vc) acc.length (flat acc)) :=
            Fr.row2 (S := fun _ => False) hrow3 (((Fr.refl _ w3).alloc _).alloc _) (fun _ _ e => e)
          have HTN : Hid (∀ j u, [Value.int .i64 op, .int .i64 a][j]? = some u → ((w3.alloc (.cells #[.int .i64 op, .int .i64 a] 92)).alloc (.cells #[.int .i64 op, .int .i64 a] 92)).cell? ((⟨w3.heap.size + 1, 0, none⟩ : Addr).add j) = some u) := by
            have q := two_new' (w3.alloc (.cells #[.int .i64 op, .int .i64 a] 92)) (.int .i64 op) (.int .i64 a) 92
            rw [show (w3.alloc (.cells #[.int .i64 op, .int .i64 a] 92)).heap.size = w3.heap.size + 1 by simp] at q
            exact q
          have HLN : Hid (acc.length ≤ 8796093022207) := by have := unhide hM; unfold Hid; omega
          clear hrow3 hD3 hF3
          go_wp2_with (first | (at_builtin; refine wpList_appW rfl _ _ rfl _ acc rfl (unhide HRo2) ⟨w3.heap.size + 1, 0, none⟩ 1 op a rfl (unhide HTN) (unhide HLN) ?_))
          intro v5 w5 hr5 hg5 hat5
          have f5 : Fr (fun k => (Value.slice va A vc).ownBlock = some k) w3 w5 := (((Fr.refl (fun k => (Value.slice va A vc).ownBlock = some k) w3).alloc _).alloc _).grown hg5 (fun k e => .inr e)
          have hrl := (unhide D3).lt
          have hrbl : rb < w3.heap.size := Nat.lt_of_lt_of_le (unhide hJ).rdr.rb_lt (unhide F3).size
          have hb := (unhide hJ).bel
          have hb3 := hb.trans ((unhide F3).below hb.size (fun k hk e => by have := (unhide hJ).rlo; omega))
          have J5 : Hid (DJ w r rb (acc ++ [(op, a)]) v5 t' v3 w5) := by
            refine ⟨(unhide D3).keep f5 (fun e => ((unhide hJ).own r e).2.1 rfl) (fun b0 off len cap e q => ?_), by simpa using hr5, hb3.trans (f5.below hb3.size (fun k hk e => by have := ((unhide hJ).own k e).1; omega)), fun k hk => ?_, (unhide hJ).rlo⟩
            · have q1 := (unhide D3).ap b0 off len cap e
              exact ((unhide hJ).own b0 q).2.2 q1
            · rcases hat5 with e | e
              · rw [e] at hk; exact (unhide hJ).own k hk
              · rw [e] at hk
                cases hk
                have := hb3.size
                simp
                omega
          clear hr5 hg5 hat5 f5 hrl hrbl hb hb3
          go_wp2_with fail
          go_roundg (t'.length)
          case measure =>
            have h1 := (unhide hM).1
            have h2 := (unhide HT).2.1
            simp at h1
            omega
          case rel =>
            refine ⟨acc ++ [(op, a)], t', v5, v3, f', ?_, rfl, unhide HO, unhide J5⟩
            have h1 := (unhide hM).1
            have h2 := (unhide hM).2.1
            have h3 := (unhide hM).2.2.1
            have h4 := unhide HT
            have h5 := unhide hA
            simp at h1 h2
            refine ⟨rfl, by omega, ?_, h4.1⟩
            rw [List.length_append, List.length_singleton]
            omega

set_option linter.unusedVariables false

/-- A state. -/
abbrev Sr := List Int × Int
/-- The reader at r is in this state. -/
def RS (w : World) (r rb : Nat) (s : Sr) : Prop := ∃ v, Rdr w r rb v s.1 s.2 ∧ BOk s.1 ∧ s.1.length ≤ 140737488355328
/-- Behind a call that answers u. -/
def RQ (r rb : Nat) (w : World) (u : Value) (s : Sr) (e : Ending) (w' : World) : Prop := e = .returned u ∧ RS w' r rb s ∧ RFr r w w'
def cnt (most : Int) (s : Sr) : Nat × Sr := if s.2 = 0 then (match unumMost most s.1 with | .ok (x, t) => (x, (t, 0)) | .error k => (0, (s.1, k))) else (0, s)
def txt (most : Int) (s : Sr) : ByteArray × Sr := if s.2 = 0 then (match unumMost most s.1 with | .error k => (ByteArray.empty, (s.1, k)) | .ok (x, t) => if t.length < x then (ByteArray.empty, (s.1, 2)) else (toStr (t.take x), (t.drop x, 0))) else (ByteArray.empty, s)
def byt (s : Sr) : Int × Sr := if s.2 = 0 then (match s.1 with | [] => (0, (s.1, 2)) | b :: t => (b, (t, 0))) else (0, s)
def wrd (s : Sr) : Nat × Sr := if s.2 = 0 then (if s.1.length < 8 then (0, (s.1, 2)) else (wnum 0 (s.1.take 8), (s.1.drop 8, 0))) else (0, s)
def raw (n : Nat) (s : Sr) : List Int × Sr := if s.2 = 0 then (if s.1.length < n then ([], (s.1, 2)) else (s.1.take n, (s.1.drop n, 0))) else ([], s)

theorem unum_len : ∀ (bs : List Int) (i acc x : Nat) (t : List Int), unum i acc bs = .ok (x, t) → t.length < bs.length := by
  intro bs
  induction bs with
  | nil => intro i acc x t h; rw [unum] at h; cases h
  | cons b r ih =>
    intro i acc x t h
    rw [unum_cons] at h
    by_cases q : i = 9 ∧ b ≠ 1 ∨ 0 < i ∧ b = 0
    · rw [if_pos q] at h; cases h
    · rw [if_neg q] at h
      by_cases q2 : b < 128
      · rw [if_pos q2] at h
        cases h
        simp
      · rw [if_neg q2] at h
        have := ih _ _ _ _ h
        simp
        omega
theorem unumMost_len {most : Int} {bs : List Int} {x : Nat} {t : List Int} (h : unumMost most bs = .ok (x, t)) : t.length < bs.length ∧ (x : Int) ≤ max most 0 := by
  unfold unumMost at h
  cases hu : unum 0 0 bs with
  | error k => rw [hu] at h; cases h
  | ok p =>
    obtain ⟨y, u⟩ := p
    rw [hu] at h
    simp only at h
    by_cases q : max most 0 < (y : Int)
    · rw [if_pos q] at h; cases h
    · rw [if_neg q] at h
      cases h
      exact ⟨unum_len _ _ _ _ _ hu, by omega⟩
theorem cnt_le (most : Int) (s : Sr) : ((cnt most s).1 : Int) ≤ max most 0 := by
  unfold cnt
  by_cases q : s.2 = 0
  · rw [if_pos q]
    cases hu : unumMost most s.1 with
    | error k => simp; omega
    | ok p => obtain ⟨x, t⟩ := p; exact (unumMost_len hu).2
  · rw [if_neg q]; simp; omega
theorem RS.fr {S : Nat → Prop} {w w' : World} {r rb : Nat} {s : Sr} (h : RS w r rb s) (f : Fr S w w') (hr : ¬ S r) (hb : ¬ S rb) : RS w' r rb s := by
  obtain ⟨v, h1, h2⟩ := h
  exact ⟨v, h1.keep f hr (fun b off len cap e => by rw [h1.ap b off len cap e]; exact hb), h2⟩
theorem RS.lt {w : World} {r rb : Nat} {s : Sr} (h : RS w r rb s) : r < w.heap.size := by obtain ⟨v, h1, _⟩ := h; exact h1.lt
section
variable {w : World} {r rb : Nat} {s : Sr}
theorem cnt_any (h : RS w r rb s) (most : Int) (hm : most ≤ 9223372036854775807) : Calls Tryz.prog 136 #[.pointer (some ⟨r, 0, none⟩), .int .i64 most] w fun e w' => RQ r rb w (.int .i64 (cnt most s).1) (cnt most s).2 e w' := by
  obtain ⟨v, h1, h2, h3⟩ := h
  refine (rCount_any r v s.1 s.2 most w h1 h2 hm).mono ?_
  rintro e w' ⟨he, v2, h4, h5⟩
  unfold rres at he h4
  unfold cnt RQ
  by_cases q : s.2 = 0
  · rw [if_pos q] at he h4 ⊢
    cases hu : unumMost most s.1 with
    | error k => rw [hu] at he h4; exact ⟨he, ⟨v2, h4, h2, h3⟩, h5⟩
    | ok p =>
      obtain ⟨x, t⟩ := p
      rw [hu] at he h4
      exact ⟨he, ⟨v2, h4, unumMost_ok h2 hu, Nat.le_trans (Nat.le_of_lt (unumMost_len hu).1) h3⟩, h5⟩
  · rw [if_neg q] at he h4 ⊢
    exact ⟨he, ⟨v2, h4, h2, h3⟩, h5⟩
theorem txt_any (h : RS w r rb s) (most : Int) (hm : most ≤ 9223372036854775807) : Calls Tryz.prog 139 #[.pointer (some ⟨r, 0, none⟩), .int .i64 most] w fun e w' => RQ r rb w (.string (txt most s).1) (txt most s).2 e w' := by
  obtain ⟨v, h1, h2, h3⟩ := h
  refine (rText_any r v s.1 s.2 most w h1 h2 hm).mono ?_
  rintro e w' ⟨he, v2, h4, h5⟩
  unfold rres gText at he h4
  unfold txt RQ
  by_cases q : s.2 = 0
  · rw [if_pos q] at he h4 ⊢
    cases hu : unumMost most s.1 with
    | error k => rw [hu] at he h4; exact ⟨he, ⟨v2, h4, h2, h3⟩, h5⟩
    | ok p =>
      obtain ⟨x, t⟩ := p
      rw [hu] at he h4
      have hl := (unumMost_len hu).1
      have hb := unumMost_ok h2 hu
      by_cases q2 : t.length < x
      · simp only [if_pos q2] at he h4 ⊢
        exact ⟨he, ⟨v2, h4, h2, h3⟩, h5⟩
      · simp only [if_neg q2] at he h4 ⊢
        exact ⟨he, ⟨v2, h4, fun b hb' => hb b (List.mem_of_mem_drop hb'), by simp only [List.length_drop]; omega⟩, h5⟩
  · rw [if_neg q] at he h4 ⊢
    exact ⟨he, ⟨v2, h4, h2, h3⟩, h5⟩
theorem byt_any (h : RS w r rb s) : Calls Tryz.prog 137 #[.pointer (some ⟨r, 0, none⟩)] w fun e w' => RQ r rb w (.int .u8 (byt s).1) (byt s).2 e w' := by
  obtain ⟨v, h1, h2, h3⟩ := h
  refine (rByte_any r v s.1 s.2 w h1).mono ?_
  rintro e w' ⟨he, v2, h4, h5⟩
  unfold rres at he h4
  unfold byt RQ
  by_cases q : s.2 = 0
  · rw [if_pos q] at he h4 ⊢
    obtain ⟨s1, s2⟩ := s
    cases s1 with
    | nil => exact ⟨he, ⟨v2, h4, h2, h3⟩, h5⟩
    | cons b t => exact ⟨he, ⟨v2, h4, fun b' hb' => h2 b' (List.mem_cons_of_mem _ hb'), by simp at h3 ⊢; omega⟩, h5⟩
  · rw [if_neg q] at he h4 ⊢
    exact ⟨he, ⟨v2, h4, h2, h3⟩, h5⟩
theorem wrd_any (h : RS w r rb s) : Calls Tryz.prog 138 #[.pointer (some ⟨r, 0, none⟩)] w fun e w' => RQ r rb w (.int .u64 (wrd s).1) (wrd s).2 e w' := by
  obtain ⟨v, h1, h2, h3⟩ := h
  refine (rWord_any r v s.1 s.2 w h1 h2).mono ?_
  rintro e w' ⟨he, v2, h4, h5⟩
  unfold rres gWord at he h4
  unfold wrd RQ
  by_cases q : s.2 = 0
  · rw [if_pos q] at he h4 ⊢
    by_cases q2 : s.1.length < 8
    · simp only [if_pos q2] at he h4 ⊢
      exact ⟨he, ⟨v2, h4, h2, h3⟩, h5⟩
    · simp only [if_neg q2] at he h4 ⊢
      exact ⟨he, ⟨v2, h4, fun b hb' => h2 b (List.mem_of_mem_drop hb'), by simp only [List.length_drop]; omega⟩, h5⟩
  · rw [if_neg q] at he h4 ⊢
    exact ⟨he, ⟨v2, h4, h2, h3⟩, h5⟩
theorem err_any (h : RS w r rb s) : Calls Tryz.prog 86 #[.pointer (some ⟨r, 0, none⟩)] w fun e w' => e = .returned (.int .i64 s.2) ∧ w' = w := by
  obtain ⟨v, h1, _⟩ := h
  exact rErr_any r v s.1 s.2 w h1
theorem end_any (h : RS w r rb s) : Calls Tryz.prog 91 #[.pointer (some ⟨r, 0, none⟩)] w fun e w' => e = .returned (.int .i64 (rEnd s.1 s.2)) ∧ w' = w := by
  obtain ⟨v, h1, _⟩ := h
  exact rEnd_any r v s.1 s.2 w h1
theorem rraw_any (h : RS w r rb s) (n : Nat) : Calls Tryz.prog 85 #[.pointer (some ⟨r, 0, none⟩), .int .i64 (n : Int)] w fun e w' => ∃ u, RQ r rb w u (raw n s).2 e w' ∧ Rd w' u (raw n s).1 ∧ BOk (raw n s).1 ∧ (raw n s).1.length ≤ n := by
  obtain ⟨v, h1, h2, h3⟩ := h
  unfold raw
  by_cases q : s.2 = 0
  · by_cases q2 : s.1.length < n
    · simp only [if_pos q, if_pos q2]
      refine (rRaw_bad r v s.1 s.2 n w h1 (.inr (.inr (by omega)))).mono ?_
      rintro e w' ⟨he, v2, h4, h5⟩
      refine ⟨.slice none 0 0, ⟨he, ⟨v2, ?_, h2, h3⟩, h5⟩, .inl ⟨rfl, rfl⟩, fun b hb => by simp at hb, by simp⟩
      have : rawErr n s.2 = 2 := by unfold rawErr; rw [if_pos q, if_neg (by omega)]
      rw [this] at h4
      exact h4
    · simp only [if_pos q, if_neg q2]
      refine (rRaw_good r v s.1 n w (q ▸ h1) h3 (by omega)).mono ?_
      rintro e w' ⟨val, he, ho, v2, h4, h5⟩
      have hl : (s.1.take n).length = n := by rw [List.length_take]; omega
      exact ⟨val, ⟨he, ⟨v2, h4, fun b hb' => h2 b (List.mem_of_mem_drop hb'), by simp only [List.length_drop]; omega⟩, h5⟩, Rd.of_own (by rw [hl]; exact ho), fun b hb' => h2 b (List.mem_of_mem_take hb'), by omega⟩
  · simp only [if_neg q]
    refine (rRaw_bad r v s.1 s.2 n w h1 (.inl q)).mono ?_
    rintro e w' ⟨he, v2, h4, h5⟩
    refine ⟨.slice none 0 0, ⟨he, ⟨v2, ?_, h2, h3⟩, h5⟩, .inl ⟨rfl, rfl⟩, fun b hb => by simp at hb, by simp⟩
    have : rawErr n s.2 = s.2 := by unfold rawErr; rw [if_neg q]
    rw [this] at h4
    exact h4
end
end Go.Proofs.YtlogmdldjmkkjaaGreatDoor
