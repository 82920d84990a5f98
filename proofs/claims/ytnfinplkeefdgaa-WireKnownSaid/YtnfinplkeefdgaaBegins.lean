/-
  P1.10: a proper beginning of a form is none.
-/
import Derived.Test.YtnfinplkeefdgaaBackMath
namespace Go.Proofs.Ytnfinplkeefdgaa
open Go.RowKit

theorem Rd.get {w : World} {g n cap i : Nat} {bs : List Int} (h : Rd w (.slice (some ⟨g, 0, none⟩) n cap) bs) (hi : i < bs.length) : w.cell? ⟨g, i, none⟩ = some (.int .u8 (bs.getD i 0)) := by
  rcases h with ⟨h, _⟩ | ⟨b, off, cap', h, _, _, _, h4⟩
  · simp at h
  · simp at h
    obtain ⟨⟨rfl, rfl⟩, _, _⟩ := h
    have := h4 i hi
    rwa [Nat.zero_add] at this

/-- What a new writer has written, as its first reader takes it. -/
theorem written_row (on kind : Int) (x : Nat) (s : ByteArray) (L : Nat) (w : World) (hL : Hid ((pform kind x s).length = L)) (hpos : 0 < L) (hk : (kind == 5) = false) (hb : 10 + s.size ≤ 140737488355328) (hx : x < 2 ^ 64) :
    Calls Try.prog 9 #[.agg #[.int .i64 on, .int .i64 kind, .int .u64 x, .string s]] w fun e w' => ∃ g cap, e = .returned (.tuple #[.slice (some ⟨g, 0, none⟩) L cap, .bool true]) ∧ L ≤ cap ∧ cap ≤ 9223372036854775807 ∧ w.heap.size ≤ g ∧
      (∀ c, c ≤ L → Rd w' (.slice (some ⟨g, 0, none⟩) c cap) ((pform kind x s).take c)) ∧ Below w.heap.size w w' := by
  obtain rfl := unhide hL
  refine (written_any on kind x s w hk hb hx).mono ?_
  rintro e w' ⟨v, rfl, ho, hB⟩
  obtain ⟨g, cap, cur, rfl, hb1, hg, hn, hc, hs, ht⟩ := ho.2.resolve_left (by rintro ⟨_, h0⟩; omega)
  have hR := Rd.of_own ho
  refine ⟨g, cap, rfl, hn, by unfold maxLen at hc; omega, hb1, fun c hcl => ?_, hB⟩
  have hglt := (Array.getElem?_eq_some_iff.1 hg).1
  refine .inr ⟨g, 0, cap, by rw [List.length_take, Nat.min_eq_left hcl], by rw [List.length_take]; omega, hc, hglt, fun i hi => ?_⟩
  rw [List.length_take] at hi
  rw [Nat.zero_add, hR.get (by omega)]
  simp [List.getD, show i < c from by omega]

theorem cut_cases (n : Int) (L : Nat) (hL : 0 < L) : (∃ c : Nat, c < L ∧ n.tmod (L : Int) = (c : Int)) ∨ (∃ c : Nat, 0 < c ∧ c < L ∧ n.tmod (L : Int) = -(c : Int)) := by
  rcases Int.le_total 0 n with h | h
  · obtain ⟨m, rfl⟩ := Int.eq_ofNat_of_zero_le h
    exact .inl ⟨m % L, Nat.mod_lt _ hL, by rw [Int.natCast_emod]; exact Int.tmod_eq_emod_of_nonneg (by omega)⟩
  · obtain ⟨m, hm⟩ := Int.eq_ofNat_of_zero_le (show 0 ≤ -n from by omega)
    have e : n.tmod (L : Int) = -((m % L : Nat) : Int) := by
      rw [show n = -(m : Int) from by omega, Int.neg_tmod, Int.natCast_emod, Int.tmod_eq_emod_of_nonneg (by omega)]
    have hlt := Nat.mod_lt m hL
    by_cases h0 : m % L = 0
    · exact .inl ⟨0, hL, by rw [e, h0]; rfl⟩
    · exact .inr ⟨m % L, by omega, hlt, e⟩

theorem begin_res (zero : Value) (bs : List Int) (o : Except Int (Value × List Int)) (h : o = .error 2) : rres zero o bs 0 = (zero, bs, 2) := by
  subst h; rfl

set_option maxHeartbeats 1600000 in
set_option maxRecDepth 100000 in
theorem begins0 (on : Int) (x : Nat) (s : ByteArray) (n : Int) (w : World) (hx : x < 2 ^ 64) (hs : 10 + s.size ≤ 140737488355328) :
    Calls Try.prog 4 #[.agg #[.int .i64 on, .int .i64 0, .int .u64 x, .string s], .int .i64 n] w fun e w' => e = .returned (.bool true) ∧ Below w.heap.size w w' := by
  obtain ⟨L, hL⟩ : ∃ L, Hid ((pform 0 x s).length = L) := ⟨_, rfl⟩
  have hpos : 0 < L := by
    rw [← unhide hL, show pform 0 x s = [((x % 256 : Nat) : Int)] from rfl]; simp
  have hLm : L ≤ 140737488355328 := by have := pform_le 0 x s; rw [unhide hL] at this; omega
  have hWr := hide (fun w => written_row on 0 x s L w hL hpos (by decide) hs hx)
  have herr : ∀ c, c < L → gByte ((pform 0 x s).take c) = .error 2 := by
    intro c hc
    rw [show pform 0 x s = [((x % 256 : Nat) : Int)] from rfl] at hL
    have := unhide hL
    simp at this
    obtain rfl : c = 0 := by omega
    rfl
  have hE : Hid (∀ c, c < L → rres (.int .u8 0) (gByte ((pform 0 x s).take c)) ((pform 0 x s).take c) 0 = ((.int .u8 0), (pform 0 x s).take c, 2)) := fun c hc => begin_res _ _ _ (herr c hc)
  have hl1 : ¬ ((L : Int) < 1) := by omega
  clear herr
  rcases cut_cases n L hpos with ⟨c, hc, hm⟩ | ⟨c, hc0, hc, hm⟩
  · have hBk : Hid (BOk ((pform 0 x s).take c)) := (pform_bok 0 x s hx (by omega)).take c
    have hcn : ¬ ((c : Int) < 0) := by omega
    go_enter Try.func4, Try.ntmps4
    go_wp2_with fail
    refine (unhide hWr _).mono ?_
    rintro e w1 ⟨g, cap, rfl, hcap, hmax, hg, hRd, hB1⟩
    obtain ⟨hbc, hbf⟩ := bcell hB1
    have hbs : w.heap.size < w1.heap.size := by have := hB1.size; simp at this; omega
    have hR := hide (hRd c (by omega))
    have HB1 := hide hB1
    clear hRd hB1
    go_wp2_with fail
    refine (newReader_any _ _ _ (unhide hR) (by rw [List.length_take]; omega)).mono ?_
    rintro e w2 ⟨r, v2, rfl, hr, hR2, hB2⟩
    obtain ⟨hbc2, hbf2⟩ := bcell hB2
    have HR2 := hide hR2
    have HB2 := hide hB2
    clear hR2 hB2
    go_wp2_with fail
    have hR2 := unhide HR2
    refine (rByte_any r v2 _ 0 _ hR2).mono ?_
    rw [unhide hE c (by omega)]
    rintro e w3 ⟨rfl, v3, hR3, hF3⟩
    have hB : Hid (Below w.heap.size w w3) := ((((Below.refl _ _).alloc (Nat.le_refl _) _).trans ((unhide HB1).mono (by simp))).trans ((unhide HB2).mono (by omega))).trans (hF3.below (by have := (unhide HB2).size; omega) (by intro k hk e; omega))
    have hLe := hide (rLeft_any r v3 _ 2 w3 hR3)
    have hEr := hide (rErr_any r v3 _ 2 w3 hR3)
    have hEn := hide (rEnd_any r v3 _ 2 w3 hR3)
    rw [show rEnd (List.take c (pform 0 x s)) 2 = 2 from rfl] at hEn
    rw [List.length_take, unhide hL, Nat.min_eq_left (by omega)] at hLe
    clear hR3 hF3 HR2
    go_wp2_with fail
    refine (unhide hLe).mono ?_
    rintro e w4 ⟨rfl, rfl⟩
    go_wp2_with fail
    refine (unhide hEr).mono ?_
    rintro e w4 ⟨rfl, rfl⟩
    go_wp2_with fail
    refine (unhide hEn).mono ?_
    rintro e w4 ⟨rfl, rfl⟩
    go_wp2
    go_ret
    exact ⟨rfl, unhide hB⟩
  · have hBk : Hid (BOk ((pform 0 x s).take c)) := (pform_bok 0 x s hx (by omega)).take c
    have hcn : -(c : Int) < 0 := by omega
    go_enter Try.func4, Try.ntmps4
    go_wp2_with fail
    refine (unhide hWr _).mono ?_
    rintro e w1 ⟨g, cap, rfl, hcap, hmax, hg, hRd, hB1⟩
    obtain ⟨hbc, hbf⟩ := bcell hB1
    have hbs : w.heap.size < w1.heap.size := by have := hB1.size; simp at this; omega
    have hR := hide (hRd c (by omega))
    have HB1 := hide hB1
    clear hRd hB1
    go_wp2_with fail
    refine (newReader_any _ _ _ (unhide hR) (by rw [List.length_take]; omega)).mono ?_
    rintro e w2 ⟨r, v2, rfl, hr, hR2, hB2⟩
    obtain ⟨hbc2, hbf2⟩ := bcell hB2
    have HR2 := hide hR2
    have HB2 := hide hB2
    clear hR2 hB2
    go_wp2_with fail
    have hR2 := unhide HR2
    refine (rByte_any r v2 _ 0 _ hR2).mono ?_
    rw [unhide hE c (by omega)]
    rintro e w3 ⟨rfl, v3, hR3, hF3⟩
    have hB : Hid (Below w.heap.size w w3) := ((((Below.refl _ _).alloc (Nat.le_refl _) _).trans ((unhide HB1).mono (by simp))).trans ((unhide HB2).mono (by omega))).trans (hF3.below (by have := (unhide HB2).size; omega) (by intro k hk e; omega))
    have hLe := hide (rLeft_any r v3 _ 2 w3 hR3)
    have hEr := hide (rErr_any r v3 _ 2 w3 hR3)
    have hEn := hide (rEnd_any r v3 _ 2 w3 hR3)
    rw [show rEnd (List.take c (pform 0 x s)) 2 = 2 from rfl] at hEn
    rw [List.length_take, unhide hL, Nat.min_eq_left (by omega)] at hLe
    clear hR3 hF3 HR2
    go_wp2_with fail
    refine (unhide hLe).mono ?_
    rintro e w4 ⟨rfl, rfl⟩
    go_wp2_with fail
    refine (unhide hEr).mono ?_
    rintro e w4 ⟨rfl, rfl⟩
    go_wp2_with fail
    refine (unhide hEn).mono ?_
    rintro e w4 ⟨rfl, rfl⟩
    go_wp2
    go_ret
    exact ⟨rfl, unhide hB⟩

set_option maxHeartbeats 1600000 in
set_option maxRecDepth 100000 in
theorem begins1 (on : Int) (x : Nat) (s : ByteArray) (n : Int) (w : World) (hx : x < 2 ^ 64) (hs : 10 + s.size ≤ 140737488355328) :
    Calls Try.prog 4 #[.agg #[.int .i64 on, .int .i64 1, .int .u64 x, .string s], .int .i64 n] w fun e w' => e = .returned (.bool true) ∧ Below w.heap.size w w' := by
  obtain ⟨L, hL⟩ : ∃ L, Hid ((pform 1 x s).length = L) := ⟨_, rfl⟩
  have hpos : 0 < L := by
    have := Wm.ulen_bd 9 x; rw [← unhide hL, show pform 1 x s = Wm.uform 9 x from rfl, Wm.uform_length]; omega
  have hLm : L ≤ 140737488355328 := by have := pform_le 1 x s; rw [unhide hL] at this; omega
  have hWr := hide (fun w => written_row on 1 x s L w hL hpos (by decide) hs hx)
  have herr : ∀ c, c < L → gNum (fun x => .int .u64 x) (unum 0 0 ((pform 1 x s).take c)) = .error 2 := by
    intro c hc
    rw [show pform 1 x s = Wm.uform 9 x from rfl] at hL ⊢
    have := unhide hL
    rw [Wm.uform_length] at this
    rw [unum_begin 9 0 0 x c (Fits.start x hx) (by omega)]; rfl
  have hE : Hid (∀ c, c < L → rres (.int .u64 0) (gNum (fun x => .int .u64 x) (unum 0 0 ((pform 1 x s).take c))) ((pform 1 x s).take c) 0 = ((.int .u64 0), (pform 1 x s).take c, 2)) := fun c hc => begin_res _ _ _ (herr c hc)
  have hl1 : ¬ ((L : Int) < 1) := by omega
  clear herr
  rcases cut_cases n L hpos with ⟨c, hc, hm⟩ | ⟨c, hc0, hc, hm⟩
  · have hBk : Hid (BOk ((pform 1 x s).take c)) := (pform_bok 1 x s hx (by omega)).take c
    have hcn : ¬ ((c : Int) < 0) := by omega
    go_enter Try.func4, Try.ntmps4
    go_wp2_with fail
    refine (unhide hWr _).mono ?_
    rintro e w1 ⟨g, cap, rfl, hcap, hmax, hg, hRd, hB1⟩
    obtain ⟨hbc, hbf⟩ := bcell hB1
    have hbs : w.heap.size < w1.heap.size := by have := hB1.size; simp at this; omega
    have hR := hide (hRd c (by omega))
    have HB1 := hide hB1
    clear hRd hB1
    go_wp2_with fail
    refine (newReader_any _ _ _ (unhide hR) (by rw [List.length_take]; omega)).mono ?_
    rintro e w2 ⟨r, v2, rfl, hr, hR2, hB2⟩
    obtain ⟨hbc2, hbf2⟩ := bcell hB2
    have HR2 := hide hR2
    have HB2 := hide hB2
    clear hR2 hB2
    go_wp2_with fail
    have hR2 := unhide HR2
    refine (rUint_any r v2 _ 0 _ hR2 (unhide hBk)).mono ?_
    rw [unhide hE c (by omega)]
    rintro e w3 ⟨rfl, v3, hR3, hF3⟩
    have hB : Hid (Below w.heap.size w w3) := ((((Below.refl _ _).alloc (Nat.le_refl _) _).trans ((unhide HB1).mono (by simp))).trans ((unhide HB2).mono (by omega))).trans (hF3.below (by have := (unhide HB2).size; omega) (by intro k hk e; omega))
    have hLe := hide (rLeft_any r v3 _ 2 w3 hR3)
    have hEr := hide (rErr_any r v3 _ 2 w3 hR3)
    have hEn := hide (rEnd_any r v3 _ 2 w3 hR3)
    rw [show rEnd (List.take c (pform 1 x s)) 2 = 2 from rfl] at hEn
    rw [List.length_take, unhide hL, Nat.min_eq_left (by omega)] at hLe
    clear hR3 hF3 HR2
    go_wp2_with fail
    refine (unhide hLe).mono ?_
    rintro e w4 ⟨rfl, rfl⟩
    go_wp2_with fail
    refine (unhide hEr).mono ?_
    rintro e w4 ⟨rfl, rfl⟩
    go_wp2_with fail
    refine (unhide hEn).mono ?_
    rintro e w4 ⟨rfl, rfl⟩
    go_wp2
    go_ret
    exact ⟨rfl, unhide hB⟩
  · have hBk : Hid (BOk ((pform 1 x s).take c)) := (pform_bok 1 x s hx (by omega)).take c
    have hcn : -(c : Int) < 0 := by omega
    go_enter Try.func4, Try.ntmps4
    go_wp2_with fail
    refine (unhide hWr _).mono ?_
    rintro e w1 ⟨g, cap, rfl, hcap, hmax, hg, hRd, hB1⟩
    obtain ⟨hbc, hbf⟩ := bcell hB1
    have hbs : w.heap.size < w1.heap.size := by have := hB1.size; simp at this; omega
    have hR := hide (hRd c (by omega))
    have HB1 := hide hB1
    clear hRd hB1
    go_wp2_with fail
    refine (newReader_any _ _ _ (unhide hR) (by rw [List.length_take]; omega)).mono ?_
    rintro e w2 ⟨r, v2, rfl, hr, hR2, hB2⟩
    obtain ⟨hbc2, hbf2⟩ := bcell hB2
    have HR2 := hide hR2
    have HB2 := hide hB2
    clear hR2 hB2
    go_wp2_with fail
    have hR2 := unhide HR2
    refine (rUint_any r v2 _ 0 _ hR2 (unhide hBk)).mono ?_
    rw [unhide hE c (by omega)]
    rintro e w3 ⟨rfl, v3, hR3, hF3⟩
    have hB : Hid (Below w.heap.size w w3) := ((((Below.refl _ _).alloc (Nat.le_refl _) _).trans ((unhide HB1).mono (by simp))).trans ((unhide HB2).mono (by omega))).trans (hF3.below (by have := (unhide HB2).size; omega) (by intro k hk e; omega))
    have hLe := hide (rLeft_any r v3 _ 2 w3 hR3)
    have hEr := hide (rErr_any r v3 _ 2 w3 hR3)
    have hEn := hide (rEnd_any r v3 _ 2 w3 hR3)
    rw [show rEnd (List.take c (pform 1 x s)) 2 = 2 from rfl] at hEn
    rw [List.length_take, unhide hL, Nat.min_eq_left (by omega)] at hLe
    clear hR3 hF3 HR2
    go_wp2_with fail
    refine (unhide hLe).mono ?_
    rintro e w4 ⟨rfl, rfl⟩
    go_wp2_with fail
    refine (unhide hEr).mono ?_
    rintro e w4 ⟨rfl, rfl⟩
    go_wp2_with fail
    refine (unhide hEn).mono ?_
    rintro e w4 ⟨rfl, rfl⟩
    go_wp2
    go_ret
    exact ⟨rfl, unhide hB⟩

set_option maxHeartbeats 1600000 in
set_option maxRecDepth 100000 in
theorem begins2 (on : Int) (x : Nat) (s : ByteArray) (n : Int) (w : World) (hx : x < 2 ^ 64) (hs : 10 + s.size ≤ 140737488355328) :
    Calls Try.prog 4 #[.agg #[.int .i64 on, .int .i64 2, .int .u64 x, .string s], .int .i64 n] w fun e w' => e = .returned (.bool true) ∧ Below w.heap.size w w' := by
  obtain ⟨L, hL⟩ : ∃ L, Hid ((pform 2 x s).length = L) := ⟨_, rfl⟩
  have hpos : 0 < L := by
    have := Wm.ulen_bd 9 (foldI (toI64 x)).toNat; rw [← unhide hL, show pform 2 x s = Wm.uform 9 (foldI (toI64 x)).toNat from rfl, Wm.uform_length]; omega
  have hLm : L ≤ 140737488355328 := by have := pform_le 2 x s; rw [unhide hL] at this; omega
  have hWr := hide (fun w => written_row on 2 x s L w hL hpos (by decide) hs hx)
  have herr : ∀ c, c < L → gNum (fun x => .int .i64 (unfoldI x)) (unum 0 0 ((pform 2 x s).take c)) = .error 2 := by
    intro c hc
    rw [show pform 2 x s = Wm.uform 9 (foldI (toI64 x)).toNat from rfl] at hL ⊢
    have := unhide hL
    rw [Wm.uform_length] at this
    have hf := foldI_bd (toI64 x) (toI64_bd x hx).1 (toI64_bd x hx).2
    rw [unum_begin 9 0 0 _ c (Fits.start _ (by omega)) (by omega)]; rfl
  have hE : Hid (∀ c, c < L → rres (.int .i64 0) (gNum (fun x => .int .i64 (unfoldI x)) (unum 0 0 ((pform 2 x s).take c))) ((pform 2 x s).take c) 0 = ((.int .i64 0), (pform 2 x s).take c, 2)) := fun c hc => begin_res _ _ _ (herr c hc)
  have hl1 : ¬ ((L : Int) < 1) := by omega
  clear herr
  rcases cut_cases n L hpos with ⟨c, hc, hm⟩ | ⟨c, hc0, hc, hm⟩
  · have hBk : Hid (BOk ((pform 2 x s).take c)) := (pform_bok 2 x s hx (by omega)).take c
    have hcn : ¬ ((c : Int) < 0) := by omega
    go_enter Try.func4, Try.ntmps4
    go_wp2_with fail
    refine (unhide hWr _).mono ?_
    rintro e w1 ⟨g, cap, rfl, hcap, hmax, hg, hRd, hB1⟩
    obtain ⟨hbc, hbf⟩ := bcell hB1
    have hbs : w.heap.size < w1.heap.size := by have := hB1.size; simp at this; omega
    have hR := hide (hRd c (by omega))
    have HB1 := hide hB1
    clear hRd hB1
    go_wp2_with fail
    refine (newReader_any _ _ _ (unhide hR) (by rw [List.length_take]; omega)).mono ?_
    rintro e w2 ⟨r, v2, rfl, hr, hR2, hB2⟩
    obtain ⟨hbc2, hbf2⟩ := bcell hB2
    have HR2 := hide hR2
    have HB2 := hide hB2
    clear hR2 hB2
    go_wp2_with fail
    have hR2 := unhide HR2
    refine (rInt_any r v2 _ 0 _ hR2 (unhide hBk)).mono ?_
    rw [unhide hE c (by omega)]
    rintro e w3 ⟨rfl, v3, hR3, hF3⟩
    have hB : Hid (Below w.heap.size w w3) := ((((Below.refl _ _).alloc (Nat.le_refl _) _).trans ((unhide HB1).mono (by simp))).trans ((unhide HB2).mono (by omega))).trans (hF3.below (by have := (unhide HB2).size; omega) (by intro k hk e; omega))
    have hLe := hide (rLeft_any r v3 _ 2 w3 hR3)
    have hEr := hide (rErr_any r v3 _ 2 w3 hR3)
    have hEn := hide (rEnd_any r v3 _ 2 w3 hR3)
    rw [show rEnd (List.take c (pform 2 x s)) 2 = 2 from rfl] at hEn
    rw [List.length_take, unhide hL, Nat.min_eq_left (by omega)] at hLe
    clear hR3 hF3 HR2
    go_wp2_with fail
    refine (unhide hLe).mono ?_
    rintro e w4 ⟨rfl, rfl⟩
    go_wp2_with fail
    refine (unhide hEr).mono ?_
    rintro e w4 ⟨rfl, rfl⟩
    go_wp2_with fail
    refine (unhide hEn).mono ?_
    rintro e w4 ⟨rfl, rfl⟩
    go_wp2
    go_ret
    exact ⟨rfl, unhide hB⟩
  · have hBk : Hid (BOk ((pform 2 x s).take c)) := (pform_bok 2 x s hx (by omega)).take c
    have hcn : -(c : Int) < 0 := by omega
    go_enter Try.func4, Try.ntmps4
    go_wp2_with fail
    refine (unhide hWr _).mono ?_
    rintro e w1 ⟨g, cap, rfl, hcap, hmax, hg, hRd, hB1⟩
    obtain ⟨hbc, hbf⟩ := bcell hB1
    have hbs : w.heap.size < w1.heap.size := by have := hB1.size; simp at this; omega
    have hR := hide (hRd c (by omega))
    have HB1 := hide hB1
    clear hRd hB1
    go_wp2_with fail
    refine (newReader_any _ _ _ (unhide hR) (by rw [List.length_take]; omega)).mono ?_
    rintro e w2 ⟨r, v2, rfl, hr, hR2, hB2⟩
    obtain ⟨hbc2, hbf2⟩ := bcell hB2
    have HR2 := hide hR2
    have HB2 := hide hB2
    clear hR2 hB2
    go_wp2_with fail
    have hR2 := unhide HR2
    refine (rInt_any r v2 _ 0 _ hR2 (unhide hBk)).mono ?_
    rw [unhide hE c (by omega)]
    rintro e w3 ⟨rfl, v3, hR3, hF3⟩
    have hB : Hid (Below w.heap.size w w3) := ((((Below.refl _ _).alloc (Nat.le_refl _) _).trans ((unhide HB1).mono (by simp))).trans ((unhide HB2).mono (by omega))).trans (hF3.below (by have := (unhide HB2).size; omega) (by intro k hk e; omega))
    have hLe := hide (rLeft_any r v3 _ 2 w3 hR3)
    have hEr := hide (rErr_any r v3 _ 2 w3 hR3)
    have hEn := hide (rEnd_any r v3 _ 2 w3 hR3)
    rw [show rEnd (List.take c (pform 2 x s)) 2 = 2 from rfl] at hEn
    rw [List.length_take, unhide hL, Nat.min_eq_left (by omega)] at hLe
    clear hR3 hF3 HR2
    go_wp2_with fail
    refine (unhide hLe).mono ?_
    rintro e w4 ⟨rfl, rfl⟩
    go_wp2_with fail
    refine (unhide hEr).mono ?_
    rintro e w4 ⟨rfl, rfl⟩
    go_wp2_with fail
    refine (unhide hEn).mono ?_
    rintro e w4 ⟨rfl, rfl⟩
    go_wp2
    go_ret
    exact ⟨rfl, unhide hB⟩

set_option maxHeartbeats 1600000 in
set_option maxRecDepth 100000 in
theorem begins3 (on : Int) (x : Nat) (s : ByteArray) (n : Int) (w : World) (hx : x < 2 ^ 64) (hs : 10 + s.size ≤ 140737488355328) :
    Calls Try.prog 4 #[.agg #[.int .i64 on, .int .i64 3, .int .u64 x, .string s], .int .i64 n] w fun e w' => e = .returned (.bool true) ∧ Below w.heap.size w w' := by
  obtain ⟨L, hL⟩ : ∃ L, Hid ((pform 3 x s).length = L) := ⟨_, rfl⟩
  have hpos : 0 < L := by
    rw [← unhide hL, show pform 3 x s = wpre x 8 from rfl, wpre_length]; omega
  have hLm : L ≤ 140737488355328 := by have := pform_le 3 x s; rw [unhide hL] at this; omega
  have hWr := hide (fun w => written_row on 3 x s L w hL hpos (by decide) hs hx)
  have herr : ∀ c, c < L → gWord ((pform 3 x s).take c) = .error 2 := by
    intro c hc
    rw [show pform 3 x s = wpre x 8 from rfl] at hL ⊢
    have := unhide hL
    rw [wpre_length] at this
    unfold gWord
    rw [if_pos (by rw [List.length_take, wpre_length]; omega)]
  have hE : Hid (∀ c, c < L → rres (.int .u64 0) (gWord ((pform 3 x s).take c)) ((pform 3 x s).take c) 0 = ((.int .u64 0), (pform 3 x s).take c, 2)) := fun c hc => begin_res _ _ _ (herr c hc)
  have hl1 : ¬ ((L : Int) < 1) := by omega
  clear herr
  rcases cut_cases n L hpos with ⟨c, hc, hm⟩ | ⟨c, hc0, hc, hm⟩
  · have hBk : Hid (BOk ((pform 3 x s).take c)) := (pform_bok 3 x s hx (by omega)).take c
    have hcn : ¬ ((c : Int) < 0) := by omega
    go_enter Try.func4, Try.ntmps4
    go_wp2_with fail
    refine (unhide hWr _).mono ?_
    rintro e w1 ⟨g, cap, rfl, hcap, hmax, hg, hRd, hB1⟩
    obtain ⟨hbc, hbf⟩ := bcell hB1
    have hbs : w.heap.size < w1.heap.size := by have := hB1.size; simp at this; omega
    have hR := hide (hRd c (by omega))
    have HB1 := hide hB1
    clear hRd hB1
    go_wp2_with fail
    refine (newReader_any _ _ _ (unhide hR) (by rw [List.length_take]; omega)).mono ?_
    rintro e w2 ⟨r, v2, rfl, hr, hR2, hB2⟩
    obtain ⟨hbc2, hbf2⟩ := bcell hB2
    have HR2 := hide hR2
    have HB2 := hide hB2
    clear hR2 hB2
    go_wp2_with fail
    have hR2 := unhide HR2
    refine (rWord_any r v2 _ 0 _ hR2 (unhide hBk)).mono ?_
    rw [unhide hE c (by omega)]
    rintro e w3 ⟨rfl, v3, hR3, hF3⟩
    have hB : Hid (Below w.heap.size w w3) := ((((Below.refl _ _).alloc (Nat.le_refl _) _).trans ((unhide HB1).mono (by simp))).trans ((unhide HB2).mono (by omega))).trans (hF3.below (by have := (unhide HB2).size; omega) (by intro k hk e; omega))
    have hLe := hide (rLeft_any r v3 _ 2 w3 hR3)
    have hEr := hide (rErr_any r v3 _ 2 w3 hR3)
    have hEn := hide (rEnd_any r v3 _ 2 w3 hR3)
    rw [show rEnd (List.take c (pform 3 x s)) 2 = 2 from rfl] at hEn
    rw [List.length_take, unhide hL, Nat.min_eq_left (by omega)] at hLe
    clear hR3 hF3 HR2
    go_wp2_with fail
    refine (unhide hLe).mono ?_
    rintro e w4 ⟨rfl, rfl⟩
    go_wp2_with fail
    refine (unhide hEr).mono ?_
    rintro e w4 ⟨rfl, rfl⟩
    go_wp2_with fail
    refine (unhide hEn).mono ?_
    rintro e w4 ⟨rfl, rfl⟩
    go_wp2
    go_ret
    exact ⟨rfl, unhide hB⟩
  · have hBk : Hid (BOk ((pform 3 x s).take c)) := (pform_bok 3 x s hx (by omega)).take c
    have hcn : -(c : Int) < 0 := by omega
    go_enter Try.func4, Try.ntmps4
    go_wp2_with fail
    refine (unhide hWr _).mono ?_
    rintro e w1 ⟨g, cap, rfl, hcap, hmax, hg, hRd, hB1⟩
    obtain ⟨hbc, hbf⟩ := bcell hB1
    have hbs : w.heap.size < w1.heap.size := by have := hB1.size; simp at this; omega
    have hR := hide (hRd c (by omega))
    have HB1 := hide hB1
    clear hRd hB1
    go_wp2_with fail
    refine (newReader_any _ _ _ (unhide hR) (by rw [List.length_take]; omega)).mono ?_
    rintro e w2 ⟨r, v2, rfl, hr, hR2, hB2⟩
    obtain ⟨hbc2, hbf2⟩ := bcell hB2
    have HR2 := hide hR2
    have HB2 := hide hB2
    clear hR2 hB2
    go_wp2_with fail
    have hR2 := unhide HR2
    refine (rWord_any r v2 _ 0 _ hR2 (unhide hBk)).mono ?_
    rw [unhide hE c (by omega)]
    rintro e w3 ⟨rfl, v3, hR3, hF3⟩
    have hB : Hid (Below w.heap.size w w3) := ((((Below.refl _ _).alloc (Nat.le_refl _) _).trans ((unhide HB1).mono (by simp))).trans ((unhide HB2).mono (by omega))).trans (hF3.below (by have := (unhide HB2).size; omega) (by intro k hk e; omega))
    have hLe := hide (rLeft_any r v3 _ 2 w3 hR3)
    have hEr := hide (rErr_any r v3 _ 2 w3 hR3)
    have hEn := hide (rEnd_any r v3 _ 2 w3 hR3)
    rw [show rEnd (List.take c (pform 3 x s)) 2 = 2 from rfl] at hEn
    rw [List.length_take, unhide hL, Nat.min_eq_left (by omega)] at hLe
    clear hR3 hF3 HR2
    go_wp2_with fail
    refine (unhide hLe).mono ?_
    rintro e w4 ⟨rfl, rfl⟩
    go_wp2_with fail
    refine (unhide hEr).mono ?_
    rintro e w4 ⟨rfl, rfl⟩
    go_wp2_with fail
    refine (unhide hEn).mono ?_
    rintro e w4 ⟨rfl, rfl⟩
    go_wp2
    go_ret
    exact ⟨rfl, unhide hB⟩

set_option maxHeartbeats 1600000 in
set_option maxRecDepth 100000 in
theorem begins4 (on : Int) (x : Nat) (s : ByteArray) (n : Int) (w : World) (hx : x < 2 ^ 64) (hs : 10 + s.size ≤ 140737488355328) :
    Calls Try.prog 4 #[.agg #[.int .i64 on, .int .i64 4, .int .u64 x, .string s], .int .i64 n] w fun e w' => e = .returned (.bool true) ∧ Below w.heap.size w w' := by
  obtain ⟨L, hL⟩ : ∃ L, Hid ((pform 4 x s).length = L) := ⟨_, rfl⟩
  have hpos : 0 < L := by
    have := Wm.ulen_bd 9 s.size; rw [← unhide hL, show pform 4 x s = Wm.uform 9 s.size ++ strI s from rfl, List.length_append, Wm.uform_length]; omega
  have hLm : L ≤ 140737488355328 := by have := pform_le 4 x s; rw [unhide hL] at this; omega
  have hWr := hide (fun w => written_row on 4 x s L w hL hpos (by decide) hs hx)
  have herr : ∀ c, c < L → gText (s.size : Int) ((pform 4 x s).take c) = .error 2 := by
    intro c hc
    rw [show pform 4 x s = Wm.uform 9 s.size ++ strI s from rfl] at hL ⊢
    have h1 := unhide hL
    rw [List.length_append, Wm.uform_length, strI_length] at h1
    unfold gText unumMost
    by_cases hc2 : c < Wm.ulen 9 s.size
    · rw [List.take_append_of_le_length (by rw [Wm.uform_length]; omega), unum_begin 9 0 0 s.size c (Fits.start _ (by omega)) hc2]
    · rw [List.take_append, List.take_of_length_le (by rw [Wm.uform_length]; omega), unum_form s.size _ (by omega)]
      simp only
      rw [if_neg (by omega)]
      simp only
      rw [if_pos (by rw [List.length_take, strI_length, Wm.uform_length]; omega)]
  have hE : Hid (∀ c, c < L → rres (.string ByteArray.empty) (gText (s.size : Int) ((pform 4 x s).take c)) ((pform 4 x s).take c) 0 = ((.string ByteArray.empty), (pform 4 x s).take c, 2)) := fun c hc => begin_res _ _ _ (herr c hc)
  have hl1 : ¬ ((L : Int) < 1) := by omega
  clear herr
  rcases cut_cases n L hpos with ⟨c, hc, hm⟩ | ⟨c, hc0, hc, hm⟩
  · have hBk : Hid (BOk ((pform 4 x s).take c)) := (pform_bok 4 x s hx (by omega)).take c
    have hcn : ¬ ((c : Int) < 0) := by omega
    go_enter Try.func4, Try.ntmps4
    go_wp2_with fail
    refine (unhide hWr _).mono ?_
    rintro e w1 ⟨g, cap, rfl, hcap, hmax, hg, hRd, hB1⟩
    obtain ⟨hbc, hbf⟩ := bcell hB1
    have hbs : w.heap.size < w1.heap.size := by have := hB1.size; simp at this; omega
    have hR := hide (hRd c (by omega))
    have HB1 := hide hB1
    clear hRd hB1
    go_wp2_with fail
    refine (newReader_any _ _ _ (unhide hR) (by rw [List.length_take]; omega)).mono ?_
    rintro e w2 ⟨r, v2, rfl, hr, hR2, hB2⟩
    obtain ⟨hbc2, hbf2⟩ := bcell hB2
    have HR2 := hide hR2
    have HB2 := hide hB2
    clear hR2 hB2
    go_wp2_with fail
    have hR2 := unhide HR2
    refine (rText_any r v2 _ 0 (s.size : Int) _ hR2 (unhide hBk) (by omega)).mono ?_
    rw [unhide hE c (by omega)]
    rintro e w3 ⟨rfl, v3, hR3, hF3⟩
    have hB : Hid (Below w.heap.size w w3) := ((((Below.refl _ _).alloc (Nat.le_refl _) _).trans ((unhide HB1).mono (by simp))).trans ((unhide HB2).mono (by omega))).trans (hF3.below (by have := (unhide HB2).size; omega) (by intro k hk e; omega))
    have hLe := hide (rLeft_any r v3 _ 2 w3 hR3)
    have hEr := hide (rErr_any r v3 _ 2 w3 hR3)
    have hEn := hide (rEnd_any r v3 _ 2 w3 hR3)
    rw [show rEnd (List.take c (pform 4 x s)) 2 = 2 from rfl] at hEn
    rw [List.length_take, unhide hL, Nat.min_eq_left (by omega)] at hLe
    clear hR3 hF3 HR2
    go_wp2_with fail
    refine (unhide hLe).mono ?_
    rintro e w4 ⟨rfl, rfl⟩
    go_wp2_with fail
    refine (unhide hEr).mono ?_
    rintro e w4 ⟨rfl, rfl⟩
    go_wp2_with fail
    refine (unhide hEn).mono ?_
    rintro e w4 ⟨rfl, rfl⟩
    go_wp2
    go_ret
    exact ⟨rfl, unhide hB⟩
  · have hBk : Hid (BOk ((pform 4 x s).take c)) := (pform_bok 4 x s hx (by omega)).take c
    have hcn : -(c : Int) < 0 := by omega
    go_enter Try.func4, Try.ntmps4
    go_wp2_with fail
    refine (unhide hWr _).mono ?_
    rintro e w1 ⟨g, cap, rfl, hcap, hmax, hg, hRd, hB1⟩
    obtain ⟨hbc, hbf⟩ := bcell hB1
    have hbs : w.heap.size < w1.heap.size := by have := hB1.size; simp at this; omega
    have hR := hide (hRd c (by omega))
    have HB1 := hide hB1
    clear hRd hB1
    go_wp2_with fail
    refine (newReader_any _ _ _ (unhide hR) (by rw [List.length_take]; omega)).mono ?_
    rintro e w2 ⟨r, v2, rfl, hr, hR2, hB2⟩
    obtain ⟨hbc2, hbf2⟩ := bcell hB2
    have HR2 := hide hR2
    have HB2 := hide hB2
    clear hR2 hB2
    go_wp2_with fail
    have hR2 := unhide HR2
    refine (rText_any r v2 _ 0 (s.size : Int) _ hR2 (unhide hBk) (by omega)).mono ?_
    rw [unhide hE c (by omega)]
    rintro e w3 ⟨rfl, v3, hR3, hF3⟩
    have hB : Hid (Below w.heap.size w w3) := ((((Below.refl _ _).alloc (Nat.le_refl _) _).trans ((unhide HB1).mono (by simp))).trans ((unhide HB2).mono (by omega))).trans (hF3.below (by have := (unhide HB2).size; omega) (by intro k hk e; omega))
    have hLe := hide (rLeft_any r v3 _ 2 w3 hR3)
    have hEr := hide (rErr_any r v3 _ 2 w3 hR3)
    have hEn := hide (rEnd_any r v3 _ 2 w3 hR3)
    rw [show rEnd (List.take c (pform 4 x s)) 2 = 2 from rfl] at hEn
    rw [List.length_take, unhide hL, Nat.min_eq_left (by omega)] at hLe
    clear hR3 hF3 HR2
    go_wp2_with fail
    refine (unhide hLe).mono ?_
    rintro e w4 ⟨rfl, rfl⟩
    go_wp2_with fail
    refine (unhide hEr).mono ?_
    rintro e w4 ⟨rfl, rfl⟩
    go_wp2_with fail
    refine (unhide hEn).mono ?_
    rintro e w4 ⟨rfl, rfl⟩
    go_wp2
    go_ret
    exact ⟨rfl, unhide hB⟩

set_option maxHeartbeats 1600000 in
set_option maxRecDepth 100000 in
theorem beginsLow (on kind : Int) (x : Nat) (s : ByteArray) (n : Int) (w : World) (hx : x < 2 ^ 64) (hs : 10 + s.size ≤ 140737488355328) (hk : kind < 0) :
    Calls Try.prog 4 #[.agg #[.int .i64 on, .int .i64 kind, .int .u64 x, .string s], .int .i64 n] w fun e w' => e = .returned (.bool true) ∧ Below w.heap.size w w' := by
  obtain ⟨L, hL⟩ : ∃ L, Hid ((pform 1 x s).length = L) := ⟨_, rfl⟩
  have hpos : 0 < L := by
    have := Wm.ulen_bd 9 x; rw [← unhide hL, show pform 1 x s = Wm.uform 9 x from rfl, Wm.uform_length]; omega
  have hLm : L ≤ 140737488355328 := by have := pform_le 1 x s; rw [unhide hL] at this; omega
  have hWr := hide (fun w => written_row on 1 x s L w hL hpos (by decide) hs hx)
  have herr : ∀ c, c < L → gNum (fun x => .int .u64 x) (unum 0 0 ((pform 1 x s).take c)) = .error 2 := by
    intro c hc
    rw [show pform 1 x s = Wm.uform 9 x from rfl] at hL ⊢
    have := unhide hL
    rw [Wm.uform_length] at this
    rw [unum_begin 9 0 0 x c (Fits.start x hx) (by omega)]; rfl
  have hE : Hid (∀ c, c < L → rres (.int .u64 0) (gNum (fun x => .int .u64 x) (unum 0 0 ((pform 1 x s).take c))) ((pform 1 x s).take c) 0 = ((.int .u64 0), (pform 1 x s).take c, 2)) := fun c hc => begin_res _ _ _ (herr c hc)
  have hl1 : ¬ ((L : Int) < 1) := by omega
  clear herr
  rcases cut_cases n L hpos with ⟨c, hc, hm⟩ | ⟨c, hc0, hc, hm⟩
  · have hBk : Hid (BOk ((pform 1 x s).take c)) := (pform_bok 1 x s hx (by omega)).take c
    have hcn : ¬ ((c : Int) < 0) := by omega
    go_enter Try.func4, Try.ntmps4
    go_wp2_with fail
    refine (unhide hWr _).mono ?_
    rintro e w1 ⟨g, cap, rfl, hcap, hmax, hg, hRd, hB1⟩
    obtain ⟨hbc, hbf⟩ := bcell hB1
    have hbs : w.heap.size < w1.heap.size := by have := hB1.size; simp at this; omega
    have hR := hide (hRd c (by omega))
    have HB1 := hide hB1
    clear hRd hB1
    go_wp2_with fail
    refine (newReader_any _ _ _ (unhide hR) (by rw [List.length_take]; omega)).mono ?_
    rintro e w2 ⟨r, v2, rfl, hr, hR2, hB2⟩
    obtain ⟨hbc2, hbf2⟩ := bcell hB2
    have HR2 := hide hR2
    have HB2 := hide hB2
    clear hR2 hB2
    go_wp2_with fail
    have hR2 := unhide HR2
    refine (rUint_any r v2 _ 0 _ hR2 (unhide hBk)).mono ?_
    rw [unhide hE c (by omega)]
    rintro e w3 ⟨rfl, v3, hR3, hF3⟩
    have hB : Hid (Below w.heap.size w w3) := ((((Below.refl _ _).alloc (Nat.le_refl _) _).trans ((unhide HB1).mono (by simp))).trans ((unhide HB2).mono (by omega))).trans (hF3.below (by have := (unhide HB2).size; omega) (by intro k hk e; omega))
    have hLe := hide (rLeft_any r v3 _ 2 w3 hR3)
    have hEr := hide (rErr_any r v3 _ 2 w3 hR3)
    have hEn := hide (rEnd_any r v3 _ 2 w3 hR3)
    rw [show rEnd (List.take c (pform 1 x s)) 2 = 2 from rfl] at hEn
    rw [List.length_take, unhide hL, Nat.min_eq_left (by omega)] at hLe
    clear hR3 hF3 HR2
    go_wp2_with fail
    refine (unhide hLe).mono ?_
    rintro e w4 ⟨rfl, rfl⟩
    go_wp2_with fail
    refine (unhide hEr).mono ?_
    rintro e w4 ⟨rfl, rfl⟩
    go_wp2_with fail
    refine (unhide hEn).mono ?_
    rintro e w4 ⟨rfl, rfl⟩
    go_wp2
    go_ret
    exact ⟨rfl, unhide hB⟩
  · have hBk : Hid (BOk ((pform 1 x s).take c)) := (pform_bok 1 x s hx (by omega)).take c
    have hcn : -(c : Int) < 0 := by omega
    go_enter Try.func4, Try.ntmps4
    go_wp2_with fail
    refine (unhide hWr _).mono ?_
    rintro e w1 ⟨g, cap, rfl, hcap, hmax, hg, hRd, hB1⟩
    obtain ⟨hbc, hbf⟩ := bcell hB1
    have hbs : w.heap.size < w1.heap.size := by have := hB1.size; simp at this; omega
    have hR := hide (hRd c (by omega))
    have HB1 := hide hB1
    clear hRd hB1
    go_wp2_with fail
    refine (newReader_any _ _ _ (unhide hR) (by rw [List.length_take]; omega)).mono ?_
    rintro e w2 ⟨r, v2, rfl, hr, hR2, hB2⟩
    obtain ⟨hbc2, hbf2⟩ := bcell hB2
    have HR2 := hide hR2
    have HB2 := hide hB2
    clear hR2 hB2
    go_wp2_with fail
    have hR2 := unhide HR2
    refine (rUint_any r v2 _ 0 _ hR2 (unhide hBk)).mono ?_
    rw [unhide hE c (by omega)]
    rintro e w3 ⟨rfl, v3, hR3, hF3⟩
    have hB : Hid (Below w.heap.size w w3) := ((((Below.refl _ _).alloc (Nat.le_refl _) _).trans ((unhide HB1).mono (by simp))).trans ((unhide HB2).mono (by omega))).trans (hF3.below (by have := (unhide HB2).size; omega) (by intro k hk e; omega))
    have hLe := hide (rLeft_any r v3 _ 2 w3 hR3)
    have hEr := hide (rErr_any r v3 _ 2 w3 hR3)
    have hEn := hide (rEnd_any r v3 _ 2 w3 hR3)
    rw [show rEnd (List.take c (pform 1 x s)) 2 = 2 from rfl] at hEn
    rw [List.length_take, unhide hL, Nat.min_eq_left (by omega)] at hLe
    clear hR3 hF3 HR2
    go_wp2_with fail
    refine (unhide hLe).mono ?_
    rintro e w4 ⟨rfl, rfl⟩
    go_wp2_with fail
    refine (unhide hEr).mono ?_
    rintro e w4 ⟨rfl, rfl⟩
    go_wp2_with fail
    refine (unhide hEn).mono ?_
    rintro e w4 ⟨rfl, rfl⟩
    go_wp2
    go_ret
    exact ⟨rfl, unhide hB⟩

set_option maxHeartbeats 1600000 in
set_option maxRecDepth 100000 in
theorem beginsHigh (on kind : Int) (x : Nat) (s : ByteArray) (n : Int) (w : World) (hx : x < 2 ^ 64) (hs : 10 + s.size ≤ 140737488355328) (hk : 4 < kind) :
    Calls Try.prog 4 #[.agg #[.int .i64 on, .int .i64 kind, .int .u64 x, .string s], .int .i64 n] w fun e w' => e = .returned (.bool true) ∧ Below w.heap.size w w' := by
  obtain ⟨L, hL⟩ : ∃ L, Hid ((pform 1 x s).length = L) := ⟨_, rfl⟩
  have hpos : 0 < L := by
    have := Wm.ulen_bd 9 x; rw [← unhide hL, show pform 1 x s = Wm.uform 9 x from rfl, Wm.uform_length]; omega
  have hLm : L ≤ 140737488355328 := by have := pform_le 1 x s; rw [unhide hL] at this; omega
  have hWr := hide (fun w => written_row on 1 x s L w hL hpos (by decide) hs hx)
  have herr : ∀ c, c < L → gNum (fun x => .int .u64 x) (unum 0 0 ((pform 1 x s).take c)) = .error 2 := by
    intro c hc
    rw [show pform 1 x s = Wm.uform 9 x from rfl] at hL ⊢
    have := unhide hL
    rw [Wm.uform_length] at this
    rw [unum_begin 9 0 0 x c (Fits.start x hx) (by omega)]; rfl
  have hE : Hid (∀ c, c < L → rres (.int .u64 0) (gNum (fun x => .int .u64 x) (unum 0 0 ((pform 1 x s).take c))) ((pform 1 x s).take c) 0 = ((.int .u64 0), (pform 1 x s).take c, 2)) := fun c hc => begin_res _ _ _ (herr c hc)
  have hl1 : ¬ ((L : Int) < 1) := by omega
  have hk0 : ¬ kind < 0 := by omega
  clear herr
  rcases cut_cases n L hpos with ⟨c, hc, hm⟩ | ⟨c, hc0, hc, hm⟩
  · have hBk : Hid (BOk ((pform 1 x s).take c)) := (pform_bok 1 x s hx (by omega)).take c
    have hcn : ¬ ((c : Int) < 0) := by omega
    go_enter Try.func4, Try.ntmps4
    go_wp2_with fail
    refine (unhide hWr _).mono ?_
    rintro e w1 ⟨g, cap, rfl, hcap, hmax, hg, hRd, hB1⟩
    obtain ⟨hbc, hbf⟩ := bcell hB1
    have hbs : w.heap.size < w1.heap.size := by have := hB1.size; simp at this; omega
    have hR := hide (hRd c (by omega))
    have HB1 := hide hB1
    clear hRd hB1
    go_wp2_with fail
    refine (newReader_any _ _ _ (unhide hR) (by rw [List.length_take]; omega)).mono ?_
    rintro e w2 ⟨r, v2, rfl, hr, hR2, hB2⟩
    obtain ⟨hbc2, hbf2⟩ := bcell hB2
    have HR2 := hide hR2
    have HB2 := hide hB2
    clear hR2 hB2
    go_wp2_with fail
    have hR2 := unhide HR2
    refine (rUint_any r v2 _ 0 _ hR2 (unhide hBk)).mono ?_
    rw [unhide hE c (by omega)]
    rintro e w3 ⟨rfl, v3, hR3, hF3⟩
    have hB : Hid (Below w.heap.size w w3) := ((((Below.refl _ _).alloc (Nat.le_refl _) _).trans ((unhide HB1).mono (by simp))).trans ((unhide HB2).mono (by omega))).trans (hF3.below (by have := (unhide HB2).size; omega) (by intro k hk e; omega))
    have hLe := hide (rLeft_any r v3 _ 2 w3 hR3)
    have hEr := hide (rErr_any r v3 _ 2 w3 hR3)
    have hEn := hide (rEnd_any r v3 _ 2 w3 hR3)
    rw [show rEnd (List.take c (pform 1 x s)) 2 = 2 from rfl] at hEn
    rw [List.length_take, unhide hL, Nat.min_eq_left (by omega)] at hLe
    clear hR3 hF3 HR2
    go_wp2_with fail
    refine (unhide hLe).mono ?_
    rintro e w4 ⟨rfl, rfl⟩
    go_wp2_with fail
    refine (unhide hEr).mono ?_
    rintro e w4 ⟨rfl, rfl⟩
    go_wp2_with fail
    refine (unhide hEn).mono ?_
    rintro e w4 ⟨rfl, rfl⟩
    go_wp2
    go_ret
    exact ⟨rfl, unhide hB⟩
  · have hBk : Hid (BOk ((pform 1 x s).take c)) := (pform_bok 1 x s hx (by omega)).take c
    have hcn : -(c : Int) < 0 := by omega
    go_enter Try.func4, Try.ntmps4
    go_wp2_with fail
    refine (unhide hWr _).mono ?_
    rintro e w1 ⟨g, cap, rfl, hcap, hmax, hg, hRd, hB1⟩
    obtain ⟨hbc, hbf⟩ := bcell hB1
    have hbs : w.heap.size < w1.heap.size := by have := hB1.size; simp at this; omega
    have hR := hide (hRd c (by omega))
    have HB1 := hide hB1
    clear hRd hB1
    go_wp2_with fail
    refine (newReader_any _ _ _ (unhide hR) (by rw [List.length_take]; omega)).mono ?_
    rintro e w2 ⟨r, v2, rfl, hr, hR2, hB2⟩
    obtain ⟨hbc2, hbf2⟩ := bcell hB2
    have HR2 := hide hR2
    have HB2 := hide hB2
    clear hR2 hB2
    go_wp2_with fail
    have hR2 := unhide HR2
    refine (rUint_any r v2 _ 0 _ hR2 (unhide hBk)).mono ?_
    rw [unhide hE c (by omega)]
    rintro e w3 ⟨rfl, v3, hR3, hF3⟩
    have hB : Hid (Below w.heap.size w w3) := ((((Below.refl _ _).alloc (Nat.le_refl _) _).trans ((unhide HB1).mono (by simp))).trans ((unhide HB2).mono (by omega))).trans (hF3.below (by have := (unhide HB2).size; omega) (by intro k hk e; omega))
    have hLe := hide (rLeft_any r v3 _ 2 w3 hR3)
    have hEr := hide (rErr_any r v3 _ 2 w3 hR3)
    have hEn := hide (rEnd_any r v3 _ 2 w3 hR3)
    rw [show rEnd (List.take c (pform 1 x s)) 2 = 2 from rfl] at hEn
    rw [List.length_take, unhide hL, Nat.min_eq_left (by omega)] at hLe
    clear hR3 hF3 HR2
    go_wp2_with fail
    refine (unhide hLe).mono ?_
    rintro e w4 ⟨rfl, rfl⟩
    go_wp2_with fail
    refine (unhide hEr).mono ?_
    rintro e w4 ⟨rfl, rfl⟩
    go_wp2_with fail
    refine (unhide hEn).mono ?_
    rintro e w4 ⟨rfl, rfl⟩
    go_wp2
    go_ret
    exact ⟨rfl, unhide hB⟩

end Go.Proofs.Ytnfinplkeefdgaa
