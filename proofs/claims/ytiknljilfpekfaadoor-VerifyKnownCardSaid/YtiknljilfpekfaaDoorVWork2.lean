/-
  works, walked.
-/
import Derived.Test.YtiknljilfpekfaaDoorVPrg
import Derived.Test.YtiknljilfpekfaaDoorVKn
namespace Go.Proofs.YtiknljilfpekfaaDoor
open Go.RowKit
set_option linter.unusedVariables false
set_option linter.unusedSimpArgs false
def f1 : Fc := ⟨mainB, 0, 0, [(1, 0), (44, 0)], []⟩
def f2 : Fc := ⟨mainB, 0, 0, [(44, 0)], []⟩
def pg1 : Pg := ⟨[], [f1]⟩
def pg2 : Pg := ⟨[], [f2]⟩
theorem main_sp : spB mainB = true := by decide +kernel
theorem ok1 : okB 1 0 = true := by decide +kernel
theorem ok44 : okB 44 0 = true := by decide +kernel
theorem tk1 : tkI 1 0 = 0 := by decide +kernel
theorem pt1 : ptI 1 0 = 1 := by decide +kernel
theorem tk44 : tkI 44 0 = 1 := by decide +kernel
theorem pt44 : ptI 44 0 = 0 := by decide +kernel
theorem ck_of {f : Fc} (hn : f.name = mainB) (hp : f.params = 0) (hl : f.locals = 0) (h1 : 0 < f.code.length) (h2 : f.code.length ≤ 2000) (hh : f.hs = []) (hc : ∀ (j : Nat) (q : Int × Int), f.code[j]? = some q → q = (1, 0) ∨ q = (44, 0)) : ckF ⟨[], [f]⟩ = none := by
  refine ckF_none.2 ⟨⟨by simp, fun j c h => by simp at h⟩, by simp, by simp, fun j g hg => ?_⟩
  have hj : j = 0 := by have := (List.getElem?_eq_some_iff.1 hg).1; simp at this; exact this
  subst hj
  simp at hg
  subst hg
  refine fnF_none.2 ⟨nmF_none.2 ⟨by rw [hn]; exact main_sp, by rw [hn]; decide, by simp⟩, szF_none.2 ⟨by omega, by omega, fun _ => hp, by omega, h1, h2⟩, cdF_none.2 fun j q hq => ?_, hsF_none.2 ⟨by rw [hh]; simp, fun j g hg => by rw [hh] at hg; simp at hg⟩⟩
  rcases hc j q hq with rfl | rfl
  · exact ⟨by decide +kernel, rfl⟩
  · exact ⟨by decide +kernel, rfl⟩
theorem ck1 : ckF pg1 = none := ck_of rfl rfl rfl (by decide) (by decide) rfl (fun j q h => by
  have hj := (List.getElem?_eq_some_iff.1 h).1
  have : j = 0 ∨ j = 1 := by simp [f1] at hj; omega
  rcases this with rfl | rfl
  · simp [f1] at h; exact .inl h.symm
  · simp [f1] at h; exact .inr h.symm)
theorem ck2 : ckF pg2 = none := ck_of rfl rfl rfl (by decide) (by decide) rfl (fun j q h => by
  have hj := (List.getElem?_eq_some_iff.1 h).1
  have : j = 0 := by simp [f2] at hj; omega
  subst this
  simp [f2] at h; exact .inr h.symm)
theorem code1 {p : Nat} {q : Int × Int} (h : f1.code[p]? = some q) : (p = 0 ∧ q = (1, 0)) ∨ (p = 1 ∧ q = (44, 0)) := by
  have hj := (List.getElem?_eq_some_iff.1 h).1
  have : p = 0 ∨ p = 1 := by simp [f1] at hj; omega
  rcases this with rfl | rfl
  · simp [f1] at h; exact .inl ⟨rfl, h.symm⟩
  · simp [f1] at h; exact .inr ⟨rfl, h.symm⟩
theorem nx10 : nx 2 1 0 0 0 = [(1, 1)] := by
  unfold nx; rw [tk1, pt1]; decide +kernel
theorem nx11 : nx 2 44 0 1 1 = [] := by
  unfold nx; rw [tk44, pt44]; decide +kernel
theorem mt1 {s : Spot} : Mt f1 s ↔ s = (0, 0) ∨ s = (1, 1) := by
  constructor
  · intro h
    induction h with
    | zero => exact .inl rfl
    | @next p ht op a s _ hi hn ih =>
      rcases code1 hi with ⟨rfl, e⟩ | ⟨rfl, e⟩
      · cases e
        rcases ih with ih | ih
        · have : ht = 0 := congrArg Prod.snd ih
          subst this
          rw [show f1.code.length = 2 from rfl, nx10] at hn
          simp at hn; exact .inr hn
        · have : ((0 : Nat) : Int) = 1 := congrArg Prod.fst ih
          omega
      · cases e
        rcases ih with ih | ih
        · have : ((1 : Nat) : Int) = 0 := congrArg Prod.fst ih
          omega
        · have : ht = 1 := congrArg Prod.snd ih
          subst this
          rw [show f1.code.length = 2 from rfl, nx11] at hn
          simp at hn
    | hand _ hm _ => simp [f1] at hm
  · rintro (rfl | rfl)
    · exact .zero
    · exact Mt.next (f := f1) (p := 0) (ht := 0) (op := 1) (a := 0) .zero rfl (by rw [show f1.code.length = 2 from rfl, nx10]; simp)
theorem nobad1 (p : Nat) : ¬ BadM f1 p := by
  rintro ⟨ht, op, a, hm, hi, hb⟩
  have hm' := mt1.1 hm
  rcases code1 hi with ⟨rfl, e⟩ | ⟨rfl, e⟩
  · cases e
    have e0 : ht = 0 := by rcases hm' with q | q; exact congrArg Prod.snd q; have : ((0 : Nat) : Int) = 1 := congrArg Prod.fst q; omega
    subst e0
    rw [tk1, pt1] at hb
    rcases hb with ⟨h2, hm2, hne⟩ | hb | hb
    · rcases mt1.1 hm2 with q | q
      · exact hne (congrArg Prod.snd q)
      · have : ((0 : Nat) : Int) = 1 := congrArg Prod.fst q; omega
    · simp [flo, f1] at hb
    · omega
  · cases e
    have e0 : ht = 1 := by rcases hm' with q | q; (have : ((1 : Nat) : Int) = 0 := congrArg Prod.fst q; omega); exact congrArg Prod.snd q
    subst e0
    rw [tk44, pt44] at hb
    rcases hb with ⟨h2, hm2, hne⟩ | hb | hb
    · rcases mt1.1 hm2 with q | q
      · have : ((1 : Nat) : Int) = 0 := congrArg Prod.fst q; omega
      · exact hne (congrArg Prod.snd q)
    · simp [flo, f1] at hb
    · omega
theorem noun1 (p : Nat) : ¬ Un f1 p := by
  rintro ⟨op, a, hi, hu⟩
  rcases code1 hi with ⟨rfl, e⟩ | ⟨rfl, e⟩
  · cases e
    rcases hu with hu | hu
    · exact hu 0 (mt1.2 (.inl rfl))
    · simp [f1] at hu
  · cases e
    rcases hu with hu | hu
    · exact hu 1 (mt1.2 (.inr rfl))
    · have : enB 44 = true := by decide
      rw [this] at hu
      cases hu.2
theorem fn1 {hv : Option (List Int)} {pl er : Int} (h : FnR f1 hv pl er) : er = 0 ∧ pl = 0 ∧ hv = some [0, 1] := by
  rcases h with h | h | h
  · obtain ⟨_, _, p, _, hb, _⟩ := h; exact absurd hb (nobad1 p)
  · obtain ⟨_, _, _, p, _, hb, _⟩ := h; exact absurd hb (noun1 p)
  · obtain ⟨h1, h2, _, _, l, rfl, hl, hm⟩ := h
    refine ⟨h1, h2, ?_⟩
    have a0 := (hm 0 0).2 (mt1.2 (.inl rfl))
    have a1 := (hm 1 1).2 (mt1.2 (.inr rfl))
    have hl2 : l.length = 2 := hl
    match l, hl2 with
    | [u, v], _ => simp at a0 a1; rw [a0, a1]
theorem bad2 : BadM f2 0 := by
  refine ⟨0, 44, 0, .zero, rfl, .inr (.inl ?_)⟩
  rw [tk44]
  simp [flo, f2]
theorem fn2 {hv : Option (List Int)} {pl er : Int} (h : FnR f2 hv pl er) : er = 9 := by
  rcases h with h | h | h
  · exact h.1
  · exact absurd bad2 (h.2.2.1 0)
  · exact absurd bad2 (h.2.2.1 0)
theorem vp1 {L : Option (List (List Int))} {k a er : Int} (h : VpR pg1 L k a er) : er = 0 ∧ k = 0 ∧ a = 0 ∧ L = some [[0, 1]] := by
  rcases h with ⟨y, h, _⟩ | ⟨_, i, f, hf, _, _, hne, hR, _⟩ | ⟨_, h1, h2, h3, Ls, rfl, hl, hm⟩
  · rw [ck1] at h; cases h
  · have hi : i = 0 := by have := (List.getElem?_eq_some_iff.1 hf).1; simp [pg1] at this; exact this
    subst hi
    simp [pg1] at hf
    subst hf
    exact absurd (fn1 hR).1 hne
  · refine ⟨h3, h1, h2, ?_⟩
    have hl2 : Ls.length = 1 := hl
    match Ls, hl2 with
    | [l], _ =>
      have := (fn1 (hm 0 f1 l rfl rfl)).2.2
      rw [Option.some.inj this]
theorem vp2 {L : Option (List (List Int))} {k a er : Int} (h : VpR pg2 L k a er) : er = 9 ∧ L = none := by
  rcases h with ⟨y, h, _⟩ | ⟨_, i, f, hf, _, hLn, hne, hR, _⟩ | ⟨_, h1, h2, h3, Ls, rfl, hl, hm⟩
  · rw [ck2] at h; cases h
  · have hi : i = 0 := by have := (List.getElem?_eq_some_iff.1 hf).1; simp [pg2] at this; exact this
    subst hi
    simp [pg2] at hf
    subst hf
    exact ⟨fn2 hR, hLn⟩
  · have hl2 : Ls.length = 1 := hl
    match Ls, hl2 with
    | [l], _ =>
      have := fn2 (hm 0 f2 l rfl rfl)
      cases this
set_option linter.unusedVariables false
set_option linter.unusedSimpArgs false
theorem roNew (w : World) (vs : List Value) (t : TypeId) {n sz : Nat} (h : vs.length = n * sz) (hn : n ≤ maxLen) {b : Nat} (hb : w.heap.size = b) : Ro (w.alloc (.cells vs.toArray t)) sz (.slice (some ⟨b, 0, none⟩) n n) n vs := by
  subst hb
  exact ⟨h, .inr ⟨w.heap.size, 0, n, vs.toArray, t, rfl, heap_alloc_new _ _, Nat.le_refl _, hn, by simp; omega, fun j hj => by simp⟩⟩
theorem pgv_one {W : World} {f : Fc} {x : Fv} {b : Nat} (hF : FnV W f x) (hR : Ro W 5 (.slice (some ⟨b, 0, none⟩) 1 1) 1 (enF x)) : PgV W (.agg #[.slice none 0 0, .slice (some ⟨b, 0, none⟩) 1 1]) ⟨[], [f]⟩ := by
  refine ⟨_, _, rfl, by simpa [flt] using Rx.nil W 3, [x], rfl, by simpa [flt] using Rx.of_ro hR, fun i f' x' hf hx => ?_⟩
  have hi : i = 0 := by have := (List.getElem?_eq_some_iff.1 hf).1; simp at this; exact this
  subst hi
  simp at hf hx
  subst hf hx
  exact hF
theorem okp_one {f : Fc} (h : f.name = mainB) (hc : f.code.length ≤ 2000) : OkP ⟨[], [f]⟩ := by
  refine ⟨fun c hc => by simp at hc, fun i f' hf => ?_⟩
  have hi : i = 0 := by have := (List.getElem?_eq_some_iff.1 hf).1; simp at this; exact this
  subst hi
  simp at hf
  subst hf
  refine ⟨by omega, ?_⟩
  rw [h]
  decide
set_option maxRecDepth 100000 in
set_option maxHeartbeats 6400000 in
theorem works_any {w : World} (hg : Laid w) : Calls Tryd.prog 8 #[] w fun e w' => e = .returned (.bool true) ∧ Below w.heap.size w w' := by
  have gl : 0 < w.heap.size := World.block_lt_of_cell? _ _ hg
  obtain ⟨W3, eW3⟩ : ∃ W3, W3 = ((w.alloc (.cells #[.int .i64 1, .int .i64 0, .int .i64 44, .int .i64 0] 29)).alloc (.cells #[.string mainB, .int .i64 0, .int .i64 0, .slice (some ⟨w.heap.size, 0, none⟩) 2 2, .slice none 0 0] 25)).alloc (.cells #[.slice none 0 0, .slice (some ⟨w.heap.size + 1, 0, none⟩) 1 1] 41) := ⟨_, rfl⟩
  have b3 : Below w.heap.size w W3 := by rw [eW3]; exact (((Below.refl _ w).alloc (Nat.le_refl _) _).alloc (by simp) _).alloc (by simp; omega) _
  have s3 : W3.heap.size = w.heap.size + 3 := by rw [eW3]; simp
  have al : ∀ (X : World) (o : Obj), Fr (fun _ => False) X (X.alloc o) := fun X o => (Fr.refl _ X).alloc o
  have r1 : Ro W3 2 (.slice (some ⟨w.heap.size, 0, none⟩) 2 2) 2 [.int .i64 1, .int .i64 0, .int .i64 44, .int .i64 0] := by
    rw [eW3]; exact ((roNew w _ 29 rfl (by unfold maxLen; omega) rfl).fr (al _ _) (fun _ _ e => e)).fr (al _ _) (fun _ _ e => e)
  have r2 : Ro W3 5 (.slice (some ⟨w.heap.size + 1, 0, none⟩) 1 1) 1 (enF ⟨mainB, 0, 0, .slice (some ⟨w.heap.size, 0, none⟩) 2 2, .slice none 0 0⟩) := by
    rw [eW3]; exact (roNew _ _ 25 rfl (by unfold maxLen; omega) (by simp)).fr (al _ _) (fun _ _ e => e)
  have r3 : Ro W3 2 (.slice (some ⟨w.heap.size + 1 + 1, 0, none⟩) 1 1) 1 [.slice none 0 0, .slice (some ⟨w.heap.size + 1, 0, none⟩) 1 1] := by
    rw [eW3]; exact roNew _ _ 41 rfl (by unfold maxLen; omega) (by simp)
  have hF1 : FnV W3 f1 ⟨mainB, 0, 0, .slice (some ⟨w.heap.size, 0, none⟩) 2 2, .slice none 0 0⟩ := ⟨rfl, rfl, rfl, Rx.of_ro r1, by simpa [flt, f1] using Rx.nil W3 4⟩
  have HC1 := hide (program_any (pgv_one hF1 r2) (okp_one rfl (by decide)) ((b3.cell (p := ⟨0, 0, none⟩) gl).trans hg))
  have HB3 := hide b3
  have HR2 := hide r2
  have HR3 := hide r3
  have HLG := hide hg
  clear b3 r1 r2 r3 hF1 al hg
  go_enter Tryd.func8, Tryd.ntmps8
  go_wp2_with fail
  rw [show mainB = ⟨#[109, 97, 105, 110]⟩ from rfl] at eW3
  rw [← eW3]
  refine (unhide HC1).mono ?_
  rintro e W4 ⟨fa, L, k, a, er, rfl, hV, hB4, hn, hs⟩
  obtain ⟨rfl, rfl, rfl, rfl⟩ := vp1 hV
  obtain ⟨hv, mv, rfl, vs, R1, R2, R3, R4, R5⟩ := hs _ rfl
  have hvl := R1.1
  obtain ⟨u, rfl⟩ : ∃ u, vs = [u] := by
    match vs, hvl with
    | [u], _ => exact ⟨u, rfl⟩
  obtain ⟨RU, RUK⟩ := R2 0 [0, 1] u rfl rfl
  obtain ⟨hb, ho, hc, eh, _, _, lhb, kh⟩ := R1.full (by simp)
  have kh0 := kh 0 (by simp)
  rw [Nat.add_zero] at kh0
  simp only [List.length_cons, List.length_nil, Nat.zero_add] at eh
  subst eh
  obtain ⟨ua, uc, eu, _, _⟩ := RU.shape
  obtain ⟨ma, mc, em, _, _⟩ := R3.shape
  simp only [List.length_cons, List.length_nil, Nat.zero_add, Nat.reduceAdd] at eu em
  subst eu em
  have hbk := R4 hb rfl
  have HRU := hide RU
  have HRUK := hide RUK
  have HR3m := hide R3
  have HR5 := hide R5
  have q2 := (unhide HR2).keep (fun g hg => hB4.block g ((unhide HR2).lt g hg))
  have q3 := (unhide HR3).keep (fun g hg => hB4.block g ((unhide HR3).lt g hg))
  obtain ⟨m0, m1⟩ := B2.cells q3
  have lm := World.block_lt_of_cell? _ _ m0
  have z3 := q2.free rfl 3
  have c3 : W4.cell? ⟨w.heap.size + 1, 3, none⟩ = some (.slice (some ⟨w.heap.size, 0, none⟩) 2 2) := by
    obtain ⟨b', off', c', e, _, _, hb', hc'⟩ := q2.full (by omega)
    cases e
    have := hc' 3 (by omega)
    rw [Nat.zero_add] at this
    rw [this]; rfl
  have lc3 := World.block_lt_of_cell? _ _ c3
  have zf : ∀ o1 o2 o3, (((W4.alloc o1).alloc o2).alloc o3).frozen? ⟨w.heap.size + 1, 3, none⟩ = false := fun o1 o2 o3 => (((((Fr.refl (fun _ => False) W4).alloc o1).alloc o2).alloc o3).frozen (a := ⟨w.heap.size + 1, 3, none⟩) lc3 (fun e => e)).trans z3
  have zc : ∀ o1 o2 o3, (((W4.alloc o1).alloc o2).alloc o3).cell? ⟨w.heap.size + 1, 3, none⟩ = some (.slice (some ⟨w.heap.size, 0, none⟩) 2 2) := fun o1 o2 o3 => (((((Fr.refl (fun _ => False) W4).alloc o1).alloc o2).alloc o3).cell (a := ⟨w.heap.size + 1, 3, none⟩) lc3 (fun e => e)).trans c3
  have FA : ∀ o1 o2 o3 v, Fr (fun k => k = w.heap.size + 1) W4 ((((W4.alloc o1).alloc o2).alloc o3).setCell ⟨w.heap.size + 1, 3, none⟩ v) := fun o1 o2 o3 v => ((((Fr.refl (fun k => k = w.heap.size + 1) W4).alloc o1).alloc o2).alloc o3).cellset _ _ _ rfl
  have zd0 : ∀ o1 o2 o3 v, ((((W4.alloc o1).alloc o2).alloc o3).setCell ⟨w.heap.size + 1, 3, none⟩ v).cell? ⟨w.heap.size + 1 + 1, 0, none⟩ = some (.slice none 0 0) := fun o1 o2 o3 v => ((FA o1 o2 o3 v).cell (a := ⟨w.heap.size + 1 + 1, 0, none⟩) lm (by show ¬ w.heap.size + 1 + 1 = w.heap.size + 1; omega)).trans m0
  have zd1 : ∀ o1 o2 o3 v, ((((W4.alloc o1).alloc o2).alloc o3).setCell ⟨w.heap.size + 1, 3, none⟩ v).cell? ⟨w.heap.size + 1 + 1, 1, none⟩ = some (.slice (some ⟨w.heap.size + 1, 0, none⟩) 1 1) := fun o1 o2 o3 v => ((FA o1 o2 o3 v).cell (a := ⟨w.heap.size + 1 + 1, 1, none⟩) lm (by show ¬ w.heap.size + 1 + 1 = w.heap.size + 1; omega)).trans m1
  have HFA := hide FA
  clear FA
  have Q2 := hide q2
  have Q3 := hide q3
  have HB4 : Hid (Below w.heap.size w W4) := (unhide HB3).trans (hB4.mono (unhide HB3).size)
  clear hV hB4 hn hs R1 R2 R3 R4 R5 RU RUK kh q2 q3 HC1 eW3 hvl
  go_wp2_with fail
  obtain ⟨W6, eW6⟩ : ∃ W6, W6 = (((W4.alloc (.cells #[.slice (some ⟨hb, ho, none⟩) 1 hc, .slice ma 1 mc] 32)).alloc (.cells #[.int .i64 0, .int .i64 0] 34)).alloc (.cells #[.int .i64 44, .int .i64 0] 29)).setCell ⟨w.heap.size + 1, 3, none⟩ (.slice (some ⟨W4.heap.size + 1 + 1, 0, none⟩) 1 1) := ⟨_, rfl⟩
  rw [← eW6]
  have F6 : Fr (fun k => k = w.heap.size + 1) W4 W6 := by rw [eW6]; exact unhide HFA _ _ _ _
  have s6 : W6.heap.size = W4.heap.size + 3 := by rw [eW6]; simp
  have fS : ∀ (X : World) v, Fr (fun k => k = w.heap.size + 1) X (X.setCell ⟨w.heap.size + 1, 3, none⟩ v) := fun X v => (Fr.refl (fun k => k = w.heap.size + 1) X).cellset _ _ _ rfl
  have al : ∀ (X : World) (o : Obj), Fr (fun _ => False) X (X.alloc o) := fun X o => (Fr.refl _ X).alloc o
  have t1 : Ro W6 2 (.slice (some ⟨W4.heap.size + 1 + 1, 0, none⟩) 1 1) 1 [.int .i64 44, .int .i64 0] := by
    rw [eW6]; exact (roNew _ _ 29 rfl (by unfold maxLen; omega) (by simp)).fr (fS _ _) (fun k hk => by simp [Value.ownBlock] at hk; omega)
  have t2 : Ro W6 2 (.slice (some ⟨W4.heap.size, 0, none⟩) 1 1) 1 [.slice (some ⟨hb, ho, none⟩) 1 hc, .slice ma 1 mc] := by
    rw [eW6]; exact (((roNew W4 _ 32 rfl (by unfold maxLen; omega) rfl).fr (al _ _) (fun _ _ e => e)).fr (al _ _) (fun _ _ e => e)).fr (fS _ _) (fun k hk => by simp [Value.ownBlock] at hk; omega)
  have t3 : Ro W6 2 (.slice (some ⟨W4.heap.size + 1, 0, none⟩) 1 1) 1 [.int .i64 0, .int .i64 0] := by
    rw [eW6]; exact ((roNew _ _ 34 rfl (by unfold maxLen; omega) (by simp)).fr (al _ _) (fun _ _ e => e)).fr (fS _ _) (fun k hk => by simp [Value.ownBlock] at hk; omega)
  have t5 : Ro W6 5 (.slice (some ⟨w.heap.size + 1, 0, none⟩) 1 1) 1 (enF ⟨mainB, 0, 0, .slice (some ⟨W4.heap.size + 1 + 1, 0, none⟩) 1 1, .slice none 0 0⟩) := by
    have h1 := (((unhide Q2).fr (al _ (.cells #[.slice (some ⟨hb, ho, none⟩) 1 hc, .slice ma 1 mc] 32)) (fun _ _ e => e)).fr (al _ (.cells #[.int .i64 0, .int .i64 0] 34)) (fun _ _ e => e)).fr (al _ (.cells #[.int .i64 44, .int .i64 0] 29)) (fun _ _ e => e)
    rw [eW6]
    refine (h1.sets rfl (o := 0 + 3) (m := 1) (vs := [.slice (some ⟨W4.heap.size + 1 + 1, 0, none⟩) 1 1]) (ys := enF ⟨mainB, 0, 0, .slice (some ⟨W4.heap.size + 1 + 1, 0, none⟩) 1 1, .slice none 0 0⟩) (by omega) (by simp) (by omega) rfl (fun j hj => ?_) (fun j hj q => by omega)).1 |> fun r => by simpa [World.setCells] using r
    have hj5 : j = 0 ∨ j = 1 ∨ j = 2 ∨ j = 3 ∨ j = 4 := by omega
    rcases hj5 with rfl | rfl | rfl | rfl | rfl <;> simp [enF]
  have hF2 : FnV W6 f2 ⟨mainB, 0, 0, .slice (some ⟨W4.heap.size + 1 + 1, 0, none⟩) 1 1, .slice none 0 0⟩ := ⟨rfl, rfl, rfl, Rx.of_ro t1, by simpa [flt, f2] using Rx.nil W6 4⟩
  have B6 : Below w.heap.size w W6 := (unhide HB4).trans (F6.below (unhide HB4).size (fun k hk e => by omega))
  have HC2 := hide (program_any (pgv_one hF2 t5) (okp_one rfl (by decide)) ((B6.cell (p := ⟨0, 0, none⟩) gl).trans (unhide HLG)))
  have HB6 := hide B6
  have HT2 := hide t2
  have HT3 := hide t3
  have hb3 := (unhide HB3).size
  have u6 := hide ((unhide HRU).fr F6 (fun k hk e => by have := unhide HRUK k hk; omega))
  have m6 := hide ((unhide HR3m).fr F6 (fun k hk e => by have := unhide HR5 k hk; omega))
  have kh6 := (F6.cell (a := ⟨hb, ho, none⟩) lhb (by show ¬ hb = w.heap.size + 1; omega)).trans kh0
  have lh6 := Nat.lt_of_lt_of_le lhb F6.size
  clear F6 t1 t2 t3 t5 hF2 B6 fS al eW6 zd0 zd1 zf zc m0 m1 c3 z3 lm lc3 kh0 lhb
  refine (unhide HC2).mono ?_
  rintro e W7 ⟨fa, L, k, a, er, rfl, hV, hB7, hn, hs⟩
  obtain ⟨rfl, rfl⟩ := vp2 hV
  have hfa := hn rfl
  subst hfa
  have T2 := (unhide HT2).keep (fun g hg => hB7.block g ((unhide HT2).lt g hg))
  have T3 := (unhide HT3).keep (fun g hg => hB7.block g ((unhide HT3).lt g hg))
  obtain ⟨a0, a1⟩ := B2.cells T2
  obtain ⟨p0, p1⟩ := B2.cells T3
  have la := World.block_lt_of_cell? _ _ a0
  have lp := World.block_lt_of_cell? _ _ p0
  have kh7 := (hB7.cell (p := ⟨hb, ho, none⟩) lh6).trans kh6
  have lh7 := Nat.lt_of_lt_of_le lh6 hB7.size
  have U7 := hide ((unhide u6).keep (fun g hg => hB7.block g ((unhide u6).lt g hg)))
  have M7 := hide ((unhide m6).keep (fun g hg => hB7.block g ((unhide m6).lt g hg)))
  have HB7 : Hid (Below w.heap.size w W7) := (unhide HB6).trans (hB7.mono (unhide HB6).size)
  simp only [List.getElem?_cons_zero] at kh7
  clear hV hB7 hn hs T2 T3 HC2 kh6 lh6 u6 m6 HT2 HT3
  go_wp2_with fail
  obtain ⟨W8, eW8⟩ : ∃ W8, W8 = ((W7.alloc (.cells #[.slice none 0 0, .slice none 0 0] 32)).alloc (.cells #[.int .i64 k, .int .i64 a] 34)).alloc (.cells #[.int .i64 0, .int .i64 1] 3) := ⟨_, rfl⟩
  rw [← eW8]
  have F8 : Fr (fun _ => False) W7 W8 := by rw [eW8]; exact (((Fr.refl _ W7).alloc _).alloc _).alloc _
  have n8 : Rn W8 (.slice (some ⟨W7.heap.size + 1 + 1, 0, none⟩) 2 2) [0, 1] := by
    rw [eW8]; exact Rx.of_ro (roNew _ _ 3 rfl (by unfold maxLen; simp) (by simp))
  have HS8 := hide (sameN_any (Rx.of_ro ((unhide U7).fr F8 (fun _ _ e => e)) : Rn W8 (.slice ua 2 uc) [0, 1]) n8)
  have g1 := (F8.cell (a := ⟨W4.heap.size, 1, none⟩) la (fun e => e)).trans a1
  have lg := Nat.lt_of_lt_of_le la F8.size
  have M8 := hide ((unhide M7).fr F8 (fun _ _ e => e))
  have HB8 : Hid (Below w.heap.size w W8) := (unhide HB7).trans (F8.below (unhide HB7).size (fun _ _ e => e))
  clear F8 n8 eW8 a0 a1 p0 p1 la lp kh7 lh7 U7 M7
  refine (unhide HS8).mono ?_
  rintro e W9 ⟨rfl, kk, rfl⟩
  have g9 : (W8.drewN kk).cell? ⟨W4.heap.size, 1, none⟩ = some (.slice ma 1 mc) := g1
  obtain ⟨W9, eW9⟩ : ∃ W9, W9 = W8.drewN kk := ⟨_, rfl⟩
  have M9 : Hid (Ro W9 1 (.slice ma 1 mc) [[0, 1]].length (flt enN (List.map mxl [[0, 1]]))) := by rw [eW9]; exact (unhide M8).fr (S := fun _ => False) (Fr.drewN kk) (fun _ _ e => e)
  have l9 : W4.heap.size < W9.heap.size := by rw [eW9]; exact lg
  have HB9 : Hid (Below w.heap.size w W9) := by rw [eW9]; exact Go.Proofs.YtiknljilfpekfaaDoor.Below.drewN (unhide HB8) kk
  rw [← eW9] at g9 ⊢
  clear eW9 M8 g1 lg HS8
  go_wp2_with fail
  obtain ⟨W10, eW10⟩ : ∃ W10, W10 = W9.alloc (.cells #[.int .i64 1] 3) := ⟨_, rfl⟩
  rw [← eW10]
  have n10 : Rn W10 (.slice (some ⟨W9.heap.size, 0, none⟩) 1 1) [1] := by
    rw [eW10]; exact Rx.of_ro (roNew _ _ 3 rfl (by unfold maxLen; simp) rfl)
  have F10 : Fr (fun _ => False) W9 W10 := by rw [eW10]; exact (Fr.refl _ W9).alloc _
  have HS10 := hide (sameN_any (Rx.of_ro ((unhide M9).fr F10 (fun _ _ e => e)) : Rn W10 (.slice ma 1 mc) [1]) n10)
  have HB10 : Hid (Below w.heap.size w W10) := (unhide HB9).trans (F10.below (unhide HB9).size (fun _ _ e => e))
  clear F10 n10 eW10
  refine (unhide HS10).mono ?_
  rintro e W11 ⟨rfl, kk2, rfl⟩
  go_wp2_with fail
  go_ret
  exact ⟨rfl, Go.Proofs.YtiknljilfpekfaaDoor.Below.drewN (unhide HB10) kk2⟩
end Go.Proofs.YtiknljilfpekfaaDoor
