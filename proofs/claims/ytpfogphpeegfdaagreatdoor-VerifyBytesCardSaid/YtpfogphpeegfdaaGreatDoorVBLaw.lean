/-
  VerifyBytes holds.
-/
import Derived.Test.YtpfogphpeegfdaaGreatDoorVPrg
import Derived.Test.YtpfogphpeegfdaaGreatDoorVLd
import Derived.Test.YtpfogphpeegfdaaGreatDoorDOne
namespace Go.Proofs.YtpfogphpeegfdaaGreatDoor
open Go.RowKit
set_option linter.unusedVariables false
set_option linter.unusedSimpArgs false
def mainB : ByteArray := ⟨#[109, 97, 105, 110]⟩
def f1 : Fc := ⟨mainB, 0, 0, [(1, 0), (44, 0)], []⟩
def f2 : Fc := ⟨mainB, 0, 0, [(44, 0)], []⟩
def pg1 : Pg := ⟨[], [f1]⟩
def pg2 : Pg := ⟨[], [f2]⟩
theorem main_sp : spB mainB = true := by decide +kernel
theorem ok1 : okB 1 0 = true := by decide +kernel
theorem ok44 : okB 44 0 = true := by decide +kernel
theorem tk1 : tkI 1 0 = 0 := by decide +kernel
theorem pt1 : ptI 1 0 = 1 := by decide +kernel
theorem tk44 : tkI 44 0 = 1 := by decide +kernel
theorem pt44 : ptI 44 0 = 0 := by decide +kernel
theorem ck_of {f : Fc} (hn : f.name = mainB) (hp : f.params = 0) (hl : f.locals = 0) (h1 : 0 < f.code.length) (h2 : f.code.length ≤ 2000) (hh : f.hs = []) (hc : ∀ (j : Nat) (q : Int × Int), f.code[j]? = some q → q = (1, 0) ∨ q = (44, 0)) : ckF ⟨[], [f]⟩ = none := by
  refine ckF_none.2 ⟨⟨by simp, fun j c h => by simp at h⟩, by simp, by simp, fun j g hg => ?_⟩
  have hj : j = 0 := by have := (List.getElem?_eq_some_iff.1 hg).1; simp at this; exact this
  subst hj
  simp at hg
  subst hg
  refine fnF_none.2 ⟨nmF_none.2 ⟨by rw [hn]; exact main_sp, by rw [hn]; decide, by simp⟩, szF_none.2 ⟨by omega, by omega, fun _ => hp, by omega, h1, h2⟩, cdF_none.2 fun j q hq => ?_, hsF_none.2 ⟨by rw [hh]; simp, fun j g hg => by rw [hh] at hg; simp at hg⟩⟩
  rcases hc j q hq with rfl | rfl
  · exact ⟨by decide +kernel, rfl⟩
  · exact ⟨by decide +kernel, rfl⟩
theorem ck1 : ckF pg1 = none := ck_of rfl rfl rfl (by decide) (by decide) rfl (fun j q h => by
  have hj := (List.getElem?_eq_some_iff.1 h).1
  have : j = 0 ∨ j = 1 := by simp [f1] at hj; omega
  rcases this with rfl | rfl
  · simp [f1] at h; exact .inl h.symm
  · simp [f1] at h; exact .inr h.symm)
theorem ck2 : ckF pg2 = none := ck_of rfl rfl rfl (by decide) (by decide) rfl (fun j q h => by
  have hj := (List.getElem?_eq_some_iff.1 h).1
  have : j = 0 := by simp [f2] at hj; omega
  subst this
  simp [f2] at h; exact .inr h.symm)
theorem code1 {p : Nat} {q : Int × Int} (h : f1.code[p]? = some q) : (p = 0 ∧ q = (1, 0)) ∨ (p = 1 ∧ q = (44, 0)) := by
  have hj := (List.getElem?_eq_some_iff.1 h).1
  have : p = 0 ∨ p = 1 := by simp [f1] at hj; omega
  rcases this with rfl | rfl
  · simp [f1] at h; exact .inl ⟨rfl, h.symm⟩
  · simp [f1] at h; exact .inr ⟨rfl, h.symm⟩
theorem nx10 : nx 2 1 0 0 0 = [(1, 1)] := by
  unfold nx; rw [tk1, pt1]; decide +kernel
theorem nx11 : nx 2 44 0 1 1 = [] := by
  unfold nx; rw [tk44, pt44]; decide +kernel
theorem mt1 {s : Spot} : Mt f1 s ↔ s = (0, 0) ∨ s = (1, 1) := by
  constructor
  · intro h
    induction h with
    | zero => exact .inl rfl
    | @next p ht op a s _ hi hn ih =>
      rcases code1 hi with ⟨rfl, e⟩ | ⟨rfl, e⟩
      · cases e
        rcases ih with ih | ih
        · have : ht = 0 := congrArg Prod.snd ih
          subst this
          rw [show f1.code.length = 2 from rfl, nx10] at hn
          simp at hn; exact .inr hn
        · have : ((0 : Nat) : Int) = 1 := congrArg Prod.fst ih
          omega
      · cases e
        rcases ih with ih | ih
        · have : ((1 : Nat) : Int) = 0 := congrArg Prod.fst ih
          omega
        · have : ht = 1 := congrArg Prod.snd ih
          subst this
          rw [show f1.code.length = 2 from rfl, nx11] at hn
          simp at hn
    | hand _ hm _ => simp [f1] at hm
  · rintro (rfl | rfl)
    · exact .zero
    · exact Mt.next (f := f1) (p := 0) (ht := 0) (op := 1) (a := 0) .zero rfl (by rw [show f1.code.length = 2 from rfl, nx10]; simp)
theorem nobad1 (p : Nat) : ¬ BadM f1 p := by
  rintro ⟨ht, op, a, hm, hi, hb⟩
  have hm' := mt1.1 hm
  rcases code1 hi with ⟨rfl, e⟩ | ⟨rfl, e⟩
  · cases e
    have e0 : ht = 0 := by rcases hm' with q | q; exact congrArg Prod.snd q; have : ((0 : Nat) : Int) = 1 := congrArg Prod.fst q; omega
    subst e0
    rw [tk1, pt1] at hb
    rcases hb with ⟨h2, hm2, hne⟩ | hb | hb
    · rcases mt1.1 hm2 with q | q
      · exact hne (congrArg Prod.snd q)
      · have : ((0 : Nat) : Int) = 1 := congrArg Prod.fst q; omega
    · simp [flo, f1] at hb
    · omega
  · cases e
    have e0 : ht = 1 := by rcases hm' with q | q; (have : ((1 : Nat) : Int) = 0 := congrArg Prod.fst q; omega); exact congrArg Prod.snd q
    subst e0
    rw [tk44, pt44] at hb
    rcases hb with ⟨h2, hm2, hne⟩ | hb | hb
    · rcases mt1.1 hm2 with q | q
      · have : ((1 : Nat) : Int) = 0 := congrArg Prod.fst q; omega
      · exact hne (congrArg Prod.snd q)
    · simp [flo, f1] at hb
    · omega
theorem noun1 (p : Nat) : ¬ Un f1 p := by
  rintro ⟨op, a, hi, hu⟩
  rcases code1 hi with ⟨rfl, e⟩ | ⟨rfl, e⟩
  · cases e
    rcases hu with hu | hu
    · exact hu 0 (mt1.2 (.inl rfl))
    · simp [f1] at hu
  · cases e
    rcases hu with hu | hu
    · exact hu 1 (mt1.2 (.inr rfl))
    · have : enB 44 = true := by decide
      rw [this] at hu
      cases hu.2
theorem fn1 {hv : Option (List Int)} {pl er : Int} (h : FnR f1 hv pl er) : er = 0 ∧ pl = 0 ∧ hv = some [0, 1] := by
  rcases h with h | h | h
  · obtain ⟨_, _, p, _, hb, _⟩ := h; exact absurd hb (nobad1 p)
  · obtain ⟨_, _, _, p, _, hb, _⟩ := h; exact absurd hb (noun1 p)
  · obtain ⟨h1, h2, _, _, l, rfl, hl, hm⟩ := h
    refine ⟨h1, h2, ?_⟩
    have a0 := (hm 0 0).2 (mt1.2 (.inl rfl))
    have a1 := (hm 1 1).2 (mt1.2 (.inr rfl))
    have hl2 : l.length = 2 := hl
    match l, hl2 with
    | [u, v], _ => simp at a0 a1; rw [a0, a1]
theorem bad2 : BadM f2 0 := by
  refine ⟨0, 44, 0, .zero, rfl, .inr (.inl ?_)⟩
  rw [tk44]
  simp [flo, f2]
theorem fn2 {hv : Option (List Int)} {pl er : Int} (h : FnR f2 hv pl er) : er = 9 := by
  rcases h with h | h | h
  · exact h.1
  · exact absurd bad2 (h.2.2.1 0)
  · exact absurd bad2 (h.2.2.1 0)
theorem vp1 {L : Option (List (List Int))} {k a er : Int} (h : VpR pg1 L k a er) : er = 0 ∧ k = 0 ∧ a = 0 ∧ L = some [[0, 1]] := by
  rcases h with ⟨y, h, _⟩ | ⟨_, i, f, hf, _, _, hne, hR, _⟩ | ⟨_, h1, h2, h3, Ls, rfl, hl, hm⟩
  · rw [ck1] at h; cases h
  · have hi : i = 0 := by have := (List.getElem?_eq_some_iff.1 hf).1; simp [pg1] at this; exact this
    subst hi
    simp [pg1] at hf
    subst hf
    exact absurd (fn1 hR).1 hne
  · refine ⟨h3, h1, h2, ?_⟩
    have hl2 : Ls.length = 1 := hl
    match Ls, hl2 with
    | [l], _ =>
      have := (fn1 (hm 0 f1 l rfl rfl)).2.2
      rw [Option.some.inj this]
theorem vp2 {L : Option (List (List Int))} {k a er : Int} (h : VpR pg2 L k a er) : er = 9 ∧ L = none := by
  rcases h with ⟨y, h, _⟩ | ⟨_, i, f, hf, _, hLn, hne, hR, _⟩ | ⟨_, h1, h2, h3, Ls, rfl, hl, hm⟩
  · rw [ck2] at h; cases h
  · have hi : i = 0 := by have := (List.getElem?_eq_some_iff.1 hf).1; simp [pg2] at this; exact this
    subst hi
    simp [pg2] at hf
    subst hf
    exact ⟨fn2 hR, hLn⟩
  · have hl2 : Ls.length = 1 := hl
    match Ls, hl2 with
    | [l], _ =>
      have := fn2 (hm 0 f2 l rfl rfl)
      cases this
set_option linter.unusedVariables false
set_option linter.unusedSimpArgs false
theorem roNew (w : World) (vs : List Value) (t : TypeId) {n sz : Nat} (h : vs.length = n * sz) (hn : n ≤ maxLen) {b : Nat} (hb : w.heap.size = b) : Ro (w.alloc (.cells vs.toArray t)) sz (.slice (some ⟨b, 0, none⟩) n n) n vs := by
  subst hb
  exact ⟨h, .inr ⟨w.heap.size, 0, n, vs.toArray, t, rfl, heap_alloc_new _ _, Nat.le_refl _, hn, by simp; omega, fun j hj => by simp⟩⟩
theorem pgv_one {W : World} {f : Fc} {x : Fv} {b : Nat} (hF : FnV W f x) (hR : Ro W 5 (.slice (some ⟨b, 0, none⟩) 1 1) 1 (enF x)) : PgV W (.agg #[.slice none 0 0, .slice (some ⟨b, 0, none⟩) 1 1]) ⟨[], [f]⟩ := by
  refine ⟨_, _, rfl, by simpa [flt] using Rx.nil W 3, [x], rfl, by simpa [flt] using Rx.of_ro hR, fun i f' x' hf hx => ?_⟩
  have hi : i = 0 := by have := (List.getElem?_eq_some_iff.1 hf).1; simp at this; exact this
  subst hi
  simp at hf hx
  subst hf hx
  exact hF
theorem okp_one {f : Fc} (h : f.name = mainB) (hc : f.code.length ≤ 2000) : OkP ⟨[], [f]⟩ := by
  refine ⟨fun c hc => by simp at hc, fun i f' hf => ?_⟩
  have hi : i = 0 := by have := (List.getElem?_eq_some_iff.1 hf).1; simp at this; exact this
  subst hi
  simp at hf
  subst hf
  refine ⟨by omega, ?_⟩
  rw [h]
  decide
set_option maxRecDepth 100000 in
set_option maxHeartbeats 6400000 in
theorem works_any {w : World} (hg : Laid w) : Calls Tryz.prog 10 #[] w fun e w' => e = .returned (.bool true) ∧ Below w.heap.size w w' := by
  have gl : 0 < w.heap.size := World.block_lt_of_cell? _ _ hg
  obtain ⟨W3, eW3⟩ : ∃ W3, W3 = ((w.alloc (.cells #[.int .i64 1, .int .i64 0, .int .i64 44, .int .i64 0] 63)).alloc (.cells #[.string mainB, .int .i64 0, .int .i64 0, .slice (some ⟨w.heap.size, 0, none⟩) 2 2, .slice none 0 0] 54)).alloc (.cells #[.slice none 0 0, .slice (some ⟨w.heap.size + 1, 0, none⟩) 1 1] 27) := ⟨_, rfl⟩
  have b3 : Below w.heap.size w W3 := by rw [eW3]; exact (((Below.refl _ w).alloc (Nat.le_refl _) _).alloc (by simp) _).alloc (by simp; omega) _
  have s3 : W3.heap.size = w.heap.size + 3 := by rw [eW3]; simp
  have al : ∀ (X : World) (o : Obj), Fr (fun _ => False) X (X.alloc o) := fun X o => (Fr.refl _ X).alloc o
  have r1 : Ro W3 2 (.slice (some ⟨w.heap.size, 0, none⟩) 2 2) 2 [.int .i64 1, .int .i64 0, .int .i64 44, .int .i64 0] := by
    rw [eW3]; exact ((roNew w _ 63 rfl (by unfold maxLen; omega) rfl).fr (al _ _) (fun _ _ e => e)).fr (al _ _) (fun _ _ e => e)
  have r2 : Ro W3 5 (.slice (some ⟨w.heap.size + 1, 0, none⟩) 1 1) 1 (enF ⟨mainB, 0, 0, .slice (some ⟨w.heap.size, 0, none⟩) 2 2, .slice none 0 0⟩) := by
    rw [eW3]; exact (roNew _ _ 54 rfl (by unfold maxLen; omega) (by simp)).fr (al _ _) (fun _ _ e => e)
  have r3 : Ro W3 2 (.slice (some ⟨w.heap.size + 1 + 1, 0, none⟩) 1 1) 1 [.slice none 0 0, .slice (some ⟨w.heap.size + 1, 0, none⟩) 1 1] := by
    rw [eW3]; exact roNew _ _ 27 rfl (by unfold maxLen; omega) (by simp)
  have hF1 : FnV W3 f1 ⟨mainB, 0, 0, .slice (some ⟨w.heap.size, 0, none⟩) 2 2, .slice none 0 0⟩ := ⟨rfl, rfl, rfl, Rx.of_ro r1, by simpa [flt, f1] using Rx.nil W3 4⟩
  have HC1 := hide (program_any (pgv_one hF1 r2) (okp_one rfl (by decide)) ((b3.cell (p := ⟨0, 0, none⟩) gl).trans hg))
  have HB3 := hide b3
  have HR2 := hide r2
  have HR3 := hide r3
  have HLG := hide hg
  clear b3 r1 r2 r3 hF1 al hg
  go_enter Tryz.func10, Tryz.ntmps10
  go_wp2_with fail
  rw [show mainB = ⟨#[109, 97, 105, 110]⟩ from rfl] at eW3
  rw [← eW3]
  refine (unhide HC1).mono ?_
  rintro e W4 ⟨fa, L, k, a, er, rfl, hV, hB4, hn, hs⟩
  obtain ⟨rfl, rfl, rfl, rfl⟩ := vp1 hV
  obtain ⟨hv, mv, rfl, vs, R1, R2, R3, R4, R5⟩ := hs _ rfl
  have hvl := R1.1
  obtain ⟨u, rfl⟩ : ∃ u, vs = [u] := by
    match vs, hvl with
    | [u], _ => exact ⟨u, rfl⟩
  obtain ⟨RU, RUK⟩ := R2 0 [0, 1] u rfl rfl
  obtain ⟨hb, ho, hc, eh, _, _, lhb, kh⟩ := R1.full (by simp)
  have kh0 := kh 0 (by simp)
  rw [Nat.add_zero] at kh0
  simp only [List.length_cons, List.length_nil, Nat.zero_add] at eh
  subst eh
  obtain ⟨ua, uc, eu, _, _⟩ := RU.shape
  obtain ⟨ma, mc, em, _, _⟩ := R3.shape
  simp only [List.length_cons, List.length_nil, Nat.zero_add, Nat.reduceAdd] at eu em
  subst eu em
  have hbk := R4 hb rfl
  have HRU := hide RU
  have HRUK := hide RUK
  have HR3m := hide R3
  have HR5 := hide R5
  have q2 := (unhide HR2).keep (fun g hg => hB4.block g ((unhide HR2).lt g hg))
  have q3 := (unhide HR3).keep (fun g hg => hB4.block g ((unhide HR3).lt g hg))
  obtain ⟨m0, m1⟩ := B2.cells q3
  have lm := World.block_lt_of_cell? _ _ m0
  have z3 := q2.free rfl 3
  have c3 : W4.cell? ⟨w.heap.size + 1, 3, none⟩ = some (.slice (some ⟨w.heap.size, 0, none⟩) 2 2) := by
    obtain ⟨b', off', c', e, _, _, hb', hc'⟩ := q2.full (by omega)
    cases e
    have := hc' 3 (by omega)
    rw [Nat.zero_add] at this
    rw [this]; rfl
  have lc3 := World.block_lt_of_cell? _ _ c3
  have zf : ∀ o1 o2 o3, (((W4.alloc o1).alloc o2).alloc o3).frozen? ⟨w.heap.size + 1, 3, none⟩ = false := fun o1 o2 o3 => (((((Fr.refl (fun _ => False) W4).alloc o1).alloc o2).alloc o3).frozen (a := ⟨w.heap.size + 1, 3, none⟩) lc3 (fun e => e)).trans z3
  have zc : ∀ o1 o2 o3, (((W4.alloc o1).alloc o2).alloc o3).cell? ⟨w.heap.size + 1, 3, none⟩ = some (.slice (some ⟨w.heap.size, 0, none⟩) 2 2) := fun o1 o2 o3 => (((((Fr.refl (fun _ => False) W4).alloc o1).alloc o2).alloc o3).cell (a := ⟨w.heap.size + 1, 3, none⟩) lc3 (fun e => e)).trans c3
  have FA : ∀ o1 o2 o3 v, Fr (fun k => k = w.heap.size + 1) W4 ((((W4.alloc o1).alloc o2).alloc o3).setCell ⟨w.heap.size + 1, 3, none⟩ v) := fun o1 o2 o3 v => ((((Fr.refl (fun k => k = w.heap.size + 1) W4).alloc o1).alloc o2).alloc o3).cellset _ _ _ rfl
  have zd0 : ∀ o1 o2 o3 v, ((((W4.alloc o1).alloc o2).alloc o3).setCell ⟨w.heap.size + 1, 3, none⟩ v).cell? ⟨w.heap.size + 1 + 1, 0, none⟩ = some (.slice none 0 0) := fun o1 o2 o3 v => ((FA o1 o2 o3 v).cell (a := ⟨w.heap.size + 1 + 1, 0, none⟩) lm (by show ¬ w.heap.size + 1 + 1 = w.heap.size + 1; omega)).trans m0
  have zd1 : ∀ o1 o2 o3 v, ((((W4.alloc o1).alloc o2).alloc o3).setCell ⟨w.heap.size + 1, 3, none⟩ v).cell? ⟨w.heap.size + 1 + 1, 1, none⟩ = some (.slice (some ⟨w.heap.size + 1, 0, none⟩) 1 1) := fun o1 o2 o3 v => ((FA o1 o2 o3 v).cell (a := ⟨w.heap.size + 1 + 1, 1, none⟩) lm (by show ¬ w.heap.size + 1 + 1 = w.heap.size + 1; omega)).trans m1
  have HFA := hide FA
  clear FA
  have Q2 := hide q2
  have Q3 := hide q3
  have HB4 : Hid (Below w.heap.size w W4) := (unhide HB3).trans (hB4.mono (unhide HB3).size)
  clear hV hB4 hn hs R1 R2 R3 R4 R5 RU RUK kh q2 q3 HC1 eW3 hvl
  go_wp2_with fail
  obtain ⟨W6, eW6⟩ : ∃ W6, W6 = (((W4.alloc (.cells #[.slice (some ⟨hb, ho, none⟩) 1 hc, .slice ma 1 mc] 37)).alloc (.cells #[.int .i64 0, .int .i64 0] 41)).alloc (.cells #[.int .i64 44, .int .i64 0] 63)).setCell ⟨w.heap.size + 1, 3, none⟩ (.slice (some ⟨W4.heap.size + 1 + 1, 0, none⟩) 1 1) := ⟨_, rfl⟩
  rw [← eW6]
  have F6 : Fr (fun k => k = w.heap.size + 1) W4 W6 := by rw [eW6]; exact unhide HFA _ _ _ _
  have s6 : W6.heap.size = W4.heap.size + 3 := by rw [eW6]; simp
  have fS : ∀ (X : World) v, Fr (fun k => k = w.heap.size + 1) X (X.setCell ⟨w.heap.size + 1, 3, none⟩ v) := fun X v => (Fr.refl (fun k => k = w.heap.size + 1) X).cellset _ _ _ rfl
  have al : ∀ (X : World) (o : Obj), Fr (fun _ => False) X (X.alloc o) := fun X o => (Fr.refl _ X).alloc o
  have t1 : Ro W6 2 (.slice (some ⟨W4.heap.size + 1 + 1, 0, none⟩) 1 1) 1 [.int .i64 44, .int .i64 0] := by
    rw [eW6]; exact (roNew _ _ 63 rfl (by unfold maxLen; omega) (by simp)).fr (fS _ _) (fun k hk => by simp [Value.ownBlock] at hk; omega)
  have t2 : Ro W6 2 (.slice (some ⟨W4.heap.size, 0, none⟩) 1 1) 1 [.slice (some ⟨hb, ho, none⟩) 1 hc, .slice ma 1 mc] := by
    rw [eW6]; exact (((roNew W4 _ 37 rfl (by unfold maxLen; omega) rfl).fr (al _ _) (fun _ _ e => e)).fr (al _ _) (fun _ _ e => e)).fr (fS _ _) (fun k hk => by simp [Value.ownBlock] at hk; omega)
  have t3 : Ro W6 2 (.slice (some ⟨W4.heap.size + 1, 0, none⟩) 1 1) 1 [.int .i64 0, .int .i64 0] := by
    rw [eW6]; exact ((roNew _ _ 41 rfl (by unfold maxLen; omega) (by simp)).fr (al _ _) (fun _ _ e => e)).fr (fS _ _) (fun k hk => by simp [Value.ownBlock] at hk; omega)
  have t5 : Ro W6 5 (.slice (some ⟨w.heap.size + 1, 0, none⟩) 1 1) 1 (enF ⟨mainB, 0, 0, .slice (some ⟨W4.heap.size + 1 + 1, 0, none⟩) 1 1, .slice none 0 0⟩) := by
    have h1 := (((unhide Q2).fr (al _ (.cells #[.slice (some ⟨hb, ho, none⟩) 1 hc, .slice ma 1 mc] 37)) (fun _ _ e => e)).fr (al _ (.cells #[.int .i64 0, .int .i64 0] 41)) (fun _ _ e => e)).fr (al _ (.cells #[.int .i64 44, .int .i64 0] 63)) (fun _ _ e => e)
    rw [eW6]
    refine (h1.sets rfl (o := 0 + 3) (m := 1) (vs := [.slice (some ⟨W4.heap.size + 1 + 1, 0, none⟩) 1 1]) (ys := enF ⟨mainB, 0, 0, .slice (some ⟨W4.heap.size + 1 + 1, 0, none⟩) 1 1, .slice none 0 0⟩) (by omega) (by simp) (by omega) rfl (fun j hj => ?_) (fun j hj q => by omega)).1 |> fun r => by simpa [World.setCells] using r
    have hj5 : j = 0 ∨ j = 1 ∨ j = 2 ∨ j = 3 ∨ j = 4 := by omega
    rcases hj5 with rfl | rfl | rfl | rfl | rfl <;> simp [enF]
  have hF2 : FnV W6 f2 ⟨mainB, 0, 0, .slice (some ⟨W4.heap.size + 1 + 1, 0, none⟩) 1 1, .slice none 0 0⟩ := ⟨rfl, rfl, rfl, Rx.of_ro t1, by simpa [flt, f2] using Rx.nil W6 4⟩
  have B6 : Below w.heap.size w W6 := (unhide HB4).trans (F6.below (unhide HB4).size (fun k hk e => by omega))
  have HC2 := hide (program_any (pgv_one hF2 t5) (okp_one rfl (by decide)) ((B6.cell (p := ⟨0, 0, none⟩) gl).trans (unhide HLG)))
  have HB6 := hide B6
  have HT2 := hide t2
  have HT3 := hide t3
  have hb3 := (unhide HB3).size
  have u6 := hide ((unhide HRU).fr F6 (fun k hk e => by have := unhide HRUK k hk; omega))
  have m6 := hide ((unhide HR3m).fr F6 (fun k hk e => by have := unhide HR5 k hk; omega))
  have kh6 := (F6.cell (a := ⟨hb, ho, none⟩) lhb (by show ¬ hb = w.heap.size + 1; omega)).trans kh0
  have lh6 := Nat.lt_of_lt_of_le lhb F6.size
  clear F6 t1 t2 t3 t5 hF2 B6 fS al eW6 zd0 zd1 zf zc m0 m1 c3 z3 lm lc3 kh0 lhb
  refine (unhide HC2).mono ?_
  rintro e W7 ⟨fa, L, k, a, er, rfl, hV, hB7, hn, hs⟩
  obtain ⟨rfl, rfl⟩ := vp2 hV
  have hfa := hn rfl
  subst hfa
  have T2 := (unhide HT2).keep (fun g hg => hB7.block g ((unhide HT2).lt g hg))
  have T3 := (unhide HT3).keep (fun g hg => hB7.block g ((unhide HT3).lt g hg))
  obtain ⟨a0, a1⟩ := B2.cells T2
  obtain ⟨p0, p1⟩ := B2.cells T3
  have la := World.block_lt_of_cell? _ _ a0
  have lp := World.block_lt_of_cell? _ _ p0
  have kh7 := (hB7.cell (p := ⟨hb, ho, none⟩) lh6).trans kh6
  have lh7 := Nat.lt_of_lt_of_le lh6 hB7.size
  have U7 := hide ((unhide u6).keep (fun g hg => hB7.block g ((unhide u6).lt g hg)))
  have M7 := hide ((unhide m6).keep (fun g hg => hB7.block g ((unhide m6).lt g hg)))
  have HB7 : Hid (Below w.heap.size w W7) := (unhide HB6).trans (hB7.mono (unhide HB6).size)
  simp only [List.getElem?_cons_zero] at kh7
  clear hV hB7 hn hs T2 T3 HC2 kh6 lh6 u6 m6 HT2 HT3
  go_wp2_with fail
  obtain ⟨W8, eW8⟩ : ∃ W8, W8 = ((W7.alloc (.cells #[.slice none 0 0, .slice none 0 0] 37)).alloc (.cells #[.int .i64 k, .int .i64 a] 41)).alloc (.cells #[.int .i64 0, .int .i64 1] 3) := ⟨_, rfl⟩
  rw [← eW8]
  have F8 : Fr (fun _ => False) W7 W8 := by rw [eW8]; exact (((Fr.refl _ W7).alloc _).alloc _).alloc _
  have n8 : Rn W8 (.slice (some ⟨W7.heap.size + 1 + 1, 0, none⟩) 2 2) [0, 1] := by
    rw [eW8]; exact Rx.of_ro (roNew _ _ 3 rfl (by unfold maxLen; simp) (by simp))
  have HS8 := hide (sameN_any (Rx.of_ro ((unhide U7).fr F8 (fun _ _ e => e)) : Rn W8 (.slice ua 2 uc) [0, 1]) n8)
  have g1 := (F8.cell (a := ⟨W4.heap.size, 1, none⟩) la (fun e => e)).trans a1
  have lg := Nat.lt_of_lt_of_le la F8.size
  have M8 := hide ((unhide M7).fr F8 (fun _ _ e => e))
  have HB8 : Hid (Below w.heap.size w W8) := (unhide HB7).trans (F8.below (unhide HB7).size (fun _ _ e => e))
  clear F8 n8 eW8 a0 a1 p0 p1 la lp kh7 lh7 U7 M7
  refine (unhide HS8).mono ?_
  rintro e W9 ⟨rfl, kk, rfl⟩
  have g9 : (W8.drewN kk).cell? ⟨W4.heap.size, 1, none⟩ = some (.slice ma 1 mc) := g1
  obtain ⟨W9, eW9⟩ : ∃ W9, W9 = W8.drewN kk := ⟨_, rfl⟩
  have M9 : Hid (Ro W9 1 (.slice ma 1 mc) [[0, 1]].length (flt enN (List.map mxl [[0, 1]]))) := by rw [eW9]; exact (unhide M8).fr (S := fun _ => False) (Fr.drewN kk) (fun _ _ e => e)
  have l9 : W4.heap.size < W9.heap.size := by rw [eW9]; exact lg
  have HB9 : Hid (Below w.heap.size w W9) := by rw [eW9]; exact Go.Proofs.YtpfogphpeegfdaaGreatDoor.Below.drewN (unhide HB8) kk
  rw [← eW9] at g9 ⊢
  clear eW9 M8 g1 lg HS8
  go_wp2_with fail
  obtain ⟨W10, eW10⟩ : ∃ W10, W10 = W9.alloc (.cells #[.int .i64 1] 3) := ⟨_, rfl⟩
  rw [← eW10]
  have n10 : Rn W10 (.slice (some ⟨W9.heap.size, 0, none⟩) 1 1) [1] := by
    rw [eW10]; exact Rx.of_ro (roNew _ _ 3 rfl (by unfold maxLen; simp) rfl)
  have F10 : Fr (fun _ => False) W9 W10 := by rw [eW10]; exact (Fr.refl _ W9).alloc _
  have HS10 := hide (sameN_any (Rx.of_ro ((unhide M9).fr F10 (fun _ _ e => e)) : Rn W10 (.slice ma 1 mc) [1]) n10)
  have HB10 : Hid (Below w.heap.size w W10) := (unhide HB9).trans (F10.below (unhide HB9).size (fun _ _ e => e))
  clear F10 n10 eW10
  refine (unhide HS10).mono ?_
  rintro e W11 ⟨rfl, kk2, rfl⟩
  go_wp2_with fail
  go_ret
  exact ⟨rfl, Go.Proofs.YtpfogphpeegfdaaGreatDoor.Below.drewN (unhide HB10) kk2⟩

set_option linter.unusedVariables false
set_option linter.unusedSimpArgs false
/-- Facts that can be read. -/
def FcW (w : World) (hv mv : Value) (Ls : List (List Int)) : Prop :=
  ∃ vs, Ro w 1 hv Ls.length vs ∧ (∀ (i : Nat) (l : List Int) (u : Value), Ls[i]? = some l → vs[i]? = some u → Ro w 1 u l.length (flt enN l)) ∧ Ro w 1 mv Ls.length (flt enN (Ls.map mxl))
theorem FcR.fcw {B : Nat} {w : World} {hv mv : Value} {Ls : List (List Int)} (h : FcR B w hv mv Ls) : FcW w hv mv Ls := by
  obtain ⟨vs, h1, h2, h3, _⟩ := h
  exact ⟨vs, h1, fun i l u a b => (h2 i l u a b).1, h3⟩
theorem FcW.nil (w : World) : FcW w (.slice none 0 0) (.slice none 0 0) [] := ⟨[], Ro.nil _ _, fun i l u h => by simp at h, Ro.nil _ _⟩
theorem FcW.fr {S : Nat → Prop} {w w' : World} {hv mv : Value} {Ls : List (List Int)} (h : FcW w hv mv Ls) (f : Fr (fun _ => False) w w') : FcW w' hv mv Ls := by
  obtain ⟨vs, h1, h2, h3⟩ := h
  exact ⟨vs, h1.fr f (fun _ _ e => e), fun i l u a b => (h2 i l u a b).fr f (fun _ _ e => e), h3.fr f (fun _ _ e => e)⟩
theorem Ro.at1 {w : World} {v : Value} {n : Nat} {vs : List Value} (h : Ro w 1 v n vs) {i : Nat} (hi : i < n) : ∃ b off cap u, v = .slice (some ⟨b, off, none⟩) n cap ∧ b < w.heap.size ∧ vs[i]? = some u ∧ w.cell? ⟨b, off + i, none⟩ = some u := by
  obtain ⟨g, off, cap, e, _, _, hl, hc⟩ := h.full (by omega)
  have hv : i < vs.length := by have := h.1; omega
  refine ⟨g, off, cap, vs[i], e, hl, List.getElem?_eq_getElem hv, ?_⟩
  rw [hc i (by omega)]
  exact List.getElem?_eq_getElem hv
set_option maxRecDepth 100000 in
set_option maxHeartbeats 3200000 in
theorem sameRows_any {w : World} {u v : Value} {vs us : List Value} {Ls : List (List Int)} (hN : Ls.length ≤ 1048576) (hu : Ro w 1 u Ls.length us) (hv : Ro w 1 v Ls.length vs) (eu : ∀ (i : Nat) (l : List Int) (z : Value), Ls[i]? = some l → us[i]? = some z → Ro w 1 z l.length (flt enN l)) (ev : ∀ (i : Nat) (l : List Int) (z : Value), Ls[i]? = some l → vs[i]? = some z → Ro w 1 z l.length (flt enN l)) :
    Calls Tryz.prog 34 #[u, v] w fun e w' => e = .returned (.bool true) ∧ ∃ k, w' = w.drewN k := by
  have HU := hide hu
  have HV := hide hv
  have HEU := hide eu
  have HEV := hide ev
  obtain ⟨ua, uc, rfl, _, _⟩ := hu.shape
  obtain ⟨va, vc, rfl, _, _⟩ := hv.shape
  obtain ⟨N, hNn⟩ : ∃ n, Hid (Ls.length = n) := ⟨_, rfl⟩
  rw [unhide hNn] at hN HU HV ⊢
  have d0 : (((N : Nat) : Int) != (N : Int)) = false := by simp
  clear hu hv eu ev
  go_enter Tryz.func34, Tryz.ntmps34
  go_wp2_with fail
  go_loopg [5] N (fun gg t5 wr => ∃ (i : Nat), Hid (i + gg = N) ∧ t5 = .int .i64 (i : Int) ∧ Hid (∃ k, wr = w.drewN k))
  case atStart => exact ⟨0, by unfold Hid; omega, rfl, 0, rfl⟩
  case round =>
    obtain ⟨i, hi, rfl, hB⟩ := hrel
    by_cases hlt : i < N
    · have hil : i < Ls.length := by rw [unhide hNn]; exact hlt
      obtain ⟨l, hl⟩ : ∃ l, Ls[i]? = some l := ⟨_, List.getElem?_eq_getElem hil⟩
      obtain ⟨b1, o1, c1, z1, e1, l1, g1, k1⟩ := (unhide HU).at1 hlt
      obtain ⟨b2, o2, c2, z2, e2, l2, g2, k2⟩ := (unhide HV).at1 hlt
      have e1' : ua = some ⟨b1, o1, none⟩ := by injection e1
      have e2' : va = some ⟨b2, o2, none⟩ := by injection e2
      subst e1' e2'
      obtain ⟨kk, ekk⟩ := unhide hB
      have fw : Hid (Fr (fun _ => False) w wr) := by unfold Hid; rw [ekk]; exact Fr.drewN kk
      have k1 := ((unhide fw).cell (a := ⟨b1, o1 + i, none⟩) l1 (fun e => e)).trans k1
      have k2 := ((unhide fw).cell (a := ⟨b2, o2 + i, none⟩) l2 (fun e => e)).trans k2
      have l1 := Nat.lt_of_lt_of_le l1 (unhide fw).size
      have l2 := Nat.lt_of_lt_of_le l2 (unhide fw).size
      have HS := hide (fun (wx : World) (h : Fr (fun _ => False) w wx) => sameN_any (Rn.of_ro ((unhide HEU i l z1 hl g1).fr h (fun _ _ e => e))) (Rn.of_ro ((unhide HEV i l z2 hl g2).fr h (fun _ _ e => e))))
      obtain ⟨za, zc, ez, _, _⟩ := (unhide HEU i l z1 hl g1).shape
      obtain ⟨ya, yc, ey, _, _⟩ := (unhide HEV i l z2 hl g2).shape
      subst ez ey
      have i0 : (0 : Int) ≤ (i : Int) := by omega
      have i1 : (i : Int) < (N : Int) := by omega
      have HEK := hide ekk
      clear e1 e2 g1 g2 hl ekk
      go_wp2_with fail
      go_quiet (first | (go_at_call 23; exact Calls.quiet_of (unhide HS _ ((unhide fw).trans (Fr.drewN _)))))
      go_wp2_with fail
      go_roundg (gk - 1)
      case measure => have := unhide hi; omega
      case rel => exact ⟨i + 1, by have := unhide hi; unfold Hid; omega, by go_num, kk + nq, by rw [unhide HEK, World.drewN_drewN]⟩
    · have i1 : ¬ (i : Int) < (N : Int) := by omega
      go_wp2_with fail
      go_ret
      exact ⟨rfl, unhide hB⟩
set_option maxRecDepth 100000 in
set_option maxHeartbeats 3200000 in
theorem sameFacts_any {w : World} {h1 m1 h2 m2 : Value} {Ls : List (List Int)} (hN : Ls.length ≤ 1048576) (F1 : FcW w h1 m1 Ls) (F2 : FcW w h2 m2 Ls) :
    Calls Tryz.prog 15 #[.agg #[h1, m1], .agg #[h2, m2]] w fun e w' => e = .returned (.bool true) ∧ Below w.heap.size w w' := by
  have HF := hide (fun (wx : World) (h : Fr (fun _ => False) w wx) => (show Calls Tryz.prog 34 #[h1, h2] wx (fun e w' => e = .returned (.bool true) ∧ ∃ k, w' = wx.drewN k) from by
    obtain ⟨vs, a1, a2, a3⟩ := F1.fr (S := fun _ => False) h
    obtain ⟨us, b1, b2, b3⟩ := F2.fr (S := fun _ => False) h
    exact sameRows_any hN a1 b1 a2 b2))
  have HG := hide (fun (wx : World) (h : Fr (fun _ => False) w wx) => (show Calls Tryz.prog 23 #[m1, m2] wx (fun e w' => e = .returned (.bool true) ∧ ∃ k, w' = wx.drewN k) from by
    obtain ⟨vs, a1, a2, a3⟩ := F1.fr (S := fun _ => False) h
    obtain ⟨us, b1, b2, b3⟩ := F2.fr (S := fun _ => False) h
    exact sameN_any (l := Ls.map mxl) (Rn.of_ro (by rw [List.length_map]; exact a3)) (Rn.of_ro (by rw [List.length_map]; exact b3))))
  obtain ⟨_, a1, _, a3⟩ := F1
  obtain ⟨_, b1, _, b3⟩ := F2
  obtain ⟨p1, q1, rfl, _, _⟩ := a1.shape
  obtain ⟨p2, q2, rfl, _, _⟩ := a3.shape
  obtain ⟨p3, q3, rfl, _, _⟩ := b1.shape
  obtain ⟨p4, q4, rfl, _, _⟩ := b3.shape
  obtain ⟨N, hNn⟩ : ∃ n, Hid (Ls.length = n) := ⟨_, rfl⟩
  rw [unhide hNn] at HF HG ⊢
  obtain ⟨X, eX⟩ : ∃ X, X = (w.alloc (.cells #[.slice p1 N q1, .slice p2 N q2] 37)).alloc (.cells #[.slice p3 N q3, .slice p4 N q4] 37) := ⟨_, rfl⟩
  obtain ⟨t1, t2, t3, t4⟩ := two_boxes w #[.slice p1 N q1, .slice p2 N q2] #[.slice p3 N q3, .slice p4 N q4] 37 37
  rw [← eX] at t1 t2 t3 t4
  have x1 := t1 1
  have x2 := t2 1
  have HB := hide t3
  have fX : Hid (Fr (fun _ => False) w X) := Fr.of_below t3
  have ls1 : w.heap.size < X.heap.size := by omega
  have ls2 : w.heap.size + 1 < X.heap.size := by omega
  clear a1 a3 b1 b3 t1 t2 t3 t4
  go_enter Tryz.func15, Tryz.ntmps15
  go_wp2_with fail
  rw [← eX]
  refine (unhide HF _ (unhide fX)).mono ?_
  rintro e W2 ⟨rfl, k, ek⟩
  have f2 : Fr (fun _ => False) X W2 := by rw [ek]; exact Fr.drewN k
  have HFW : Hid (Fr (fun _ => False) w W2) := (unhide fX).trans f2
  have x1 := (f2.cell (a := ⟨w.heap.size, 1, none⟩) ls1 (fun e => e)).trans x1
  have x2 := (f2.cell (a := ⟨w.heap.size + 1, 1, none⟩) ls2 (fun e => e)).trans x2
  have ls1 := Nat.lt_of_lt_of_le ls1 f2.size
  have ls2 := Nat.lt_of_lt_of_le ls2 f2.size
  clear ek f2 eX
  simp at x1 x2
  go_wp2_with fail
  refine (unhide HG _ (unhide HFW)).mono ?_
  rintro e W3 ⟨rfl, k, ek⟩
  have HE : Hid (Below w.heap.size w W3) := by unfold Hid; rw [ek]; exact ((unhide HFW).trans (Fr.drewN k)).below (Nat.le_refl _) (fun _ _ e => e)
  clear ek
  go_wp2_with fail
  go_ret
  exact ⟨rfl, unhide HE⟩
set_option maxRecDepth 100000 in
theorem num_any (w : World) (n : Int) : Calls Tryz.prog 17 #[.int .i64 n] w fun e w' => e = .returned (.int .i64 n) ∧ w' = w := by
  go_enter Tryz.func17, Tryz.ntmps17
  go_wp2_with fail
  go_ret
  exact ⟨rfl, rfl⟩


set_option linter.unusedVariables false
set_option linter.unusedSimpArgs false
set_option maxRecDepth 100000
theorem FcR.bl {B : Nat} {w w' : World} {hv mv : Value} {Ls : List (List Int)} (h : FcR B w hv mv Ls) (f : Below w.heap.size w w') : FcR B w' hv mv Ls := h.fr (S := fun _ => False) (Fr.of_below f) (fun _ _ e => e)
theorem PW.bl {w0 w w' : World} {cv fv : Value} {p : Pg} (h : PW w0 w cv fv p) (f : Below w.heap.size w w') : PW w0 w' cv fv p := h.fr (S := fun _ => False) (Fr.of_below f) (fun _ _ e => e)
theorem Bx.bl {n b : Nat} {w w' : World} {l : List Value} (h : Bx w n b l) (f : Below w.heap.size w w') : Bx w' n b l := h.fr (S := fun _ => False) (Fr.of_below f) (fun e => e)
theorem LdR.bl {B : List Int} {w w1 w2 : World} {cv fv hv mv : Value} {er : Int} (h : LdR B w w1 cv fv hv mv er) (f : Below w1.heap.size w1 w2) : LdR B w w2 cv fv hv mv er := by
  rcases h with h | ⟨h1, h2, h3, Ls, h4, h5⟩
  · exact .inl h
  · exact .inr ⟨h1, h2, h3.bl f, Ls, h4, h5.bl f⟩
set_option maxHeartbeats 6400000 in
theorem bytesLaw {w : World} {v : Value} {B : List Int} (hl : Laid w) (hR : Rd w v B) (oB : BOk B) (hN : B.length ≤ 140737488355328) :
    Calls Tryz.prog 4 #[v] w fun e w' => e = .returned (.bool true) ∧ Below w.heap.size w w' := by
  have gl : 0 < w.heap.size := World.block_lt_of_cell? _ _ hl
  have HL := hide hl
  have HG := hide gl
  have OB := hide oB
  have NB := hide hN
  obtain ⟨va, vc, rfl⟩ := hR.shapeR
  obtain ⟨N, hNN⟩ : ∃ N, Hid (B.length = N) := ⟨_, rfl⟩
  have R0 := hide hR
  rw [unhide hNN] at R0 ⊢
  clear hl gl oB hR hN
  go_enter Tryz.func4, Tryz.ntmps4
  go_wp2_with fail
  refine (works_any (unhide HL)).mono ?_
  rintro e W1 ⟨rfl, hb1⟩
  have F1 : Hid (Below w.heap.size w W1) := hb1
  have R1 : Hid (Rd W1 (.slice va N vc) B) := (unhide R0).bl hb1
  clear hb1 R0
  go_wp2_with fail
  refine (load_any (unhide R1) (unhide OB) (unhide NB) ((unhide HL).blw (unhide F1) (unhide HG))).mono ?_
  rintro e W2 ⟨ca, cn, cc, fa, fn, fc, ha, hn, hc, ma, mn, mc, er, rfl, hb2, hq2⟩
  have Q2 := hide hq2
  have F2 : Hid (Below w.heap.size w W2) := (unhide F1).trans (hb2.mono (unhide F1).size)
  have R2 : Hid (Rd W2 (.slice va N vc) B) := (unhide R1).bl hb2
  clear F1 R1
  clear hq2 hb2
  obtain ⟨W3, eW3⟩ : ∃ W3, Hid (W3 = (W2.alloc (.cells #[.slice ca cn cc, .slice fa fn fc] 27)).alloc (.cells #[.slice ha hn hc, .slice ma mn mc] 37)) := ⟨_, rfl⟩
  have hb3 : Below W2.heap.size W2 W3 := by rw [unhide eW3]; exact ((Below.refl _ _).alloc (Nat.le_refl _) _).alloc (by simp) _
  obtain ⟨bp, ebp⟩ : ∃ b, Hid (W2.heap.size = b) := ⟨_, rfl⟩
  have P3 : Hid (Bx W3 2 bp [.slice ca cn cc, .slice fa fn fc]) := by rw [unhide eW3]; exact (Bx.new rfl (unhide ebp)).fr (S := fun _ => False) ((Fr.refl _ _).alloc _) (fun e => e)
  have H3 : Hid (Bx W3 2 (bp + 1) [.slice ha hn hc, .slice ma mn mc]) := by rw [unhide eW3]; exact Bx.new rfl (by simp; exact unhide ebp)
  have F3 : Hid (Below w.heap.size w W3) := (unhide F2).trans (hb3.mono (unhide F2).size)
  have R3 : Hid (Rd W3 (.slice va N vc) B) := (unhide R2).bl hb3
  have Q3 : Hid (LdR B W1 W3 (.slice ca cn cc) (.slice fa fn fc) (.slice ha hn hc) (.slice ma mn mc) er) := (unhide Q2).bl hb3
  clear F2 R2 Q2
  clear hb3
  go_wp2_with fail
  rw [← unhide eW3, unhide ebp]
  clear eW3
  refine (decP_any (unhide R3) (unhide OB) (unhide NB) ((unhide HL).blw (unhide F3) (unhide HG))).mono ?_
  rintro e W4 ⟨pa, pn, pc, qa, qn, qc, rfl, hb4, hp4, -⟩
  have F4 : Hid (Below w.heap.size w W4) := (unhide F3).trans (hb4.mono (unhide F3).size)
  have R4 : Hid (Rd W4 (.slice va N vc) B) := (unhide R3).bl hb4
  have Q4 : Hid (LdR B W1 W4 (.slice ca cn cc) (.slice fa fn fc) (.slice ha hn hc) (.slice ma mn mc) er) := (unhide Q3).bl hb4
  have P4 : Hid (Bx W4 2 bp [.slice ca cn cc, .slice fa fn fc]) := (unhide P3).bl hb4
  have H4 : Hid (Bx W4 2 (bp + 1) [.slice ha hn hc, .slice ma mn mc]) := (unhide H3).bl hb4
  clear F3 R3 Q3 P3 H3
  obtain ⟨d, hd⟩ : ∃ d, Hid ((decP B).2 = d) := ⟨_, rfl⟩
  rw [unhide hd] at hp4 ⊢
  have HE4 := hide hp4
  clear hp4 hb4
  obtain ⟨W5, eW5⟩ : ∃ W5, Hid (W5 = W4.alloc (.cells #[.slice pa pn pc, .slice qa qn qc] 27)) := ⟨_, rfl⟩
  have hb5 : Below W4.heap.size W4 W5 := by rw [unhide eW5]; exact (Below.refl _ _).alloc (Nat.le_refl _) _
  obtain ⟨bd, ebd⟩ : ∃ b, Hid (W4.heap.size = b) := ⟨_, rfl⟩
  have D5 : Hid (Bx W5 2 bd [.slice pa pn pc, .slice qa qn qc]) := by rw [unhide eW5]; exact Bx.new rfl (unhide ebd)
  have F5 : Hid (Below w.heap.size w W5) := (unhide F4).trans (hb5.mono (unhide F4).size)
  have R5 : Hid (Rd W5 (.slice va N vc) B) := (unhide R4).bl hb5
  have Q5 : Hid (LdR B W1 W5 (.slice ca cn cc) (.slice fa fn fc) (.slice ha hn hc) (.slice ma mn mc) er) := (unhide Q4).bl hb5
  have P5 : Hid (Bx W5 2 bp [.slice ca cn cc, .slice fa fn fc]) := (unhide P4).bl hb5
  have H5 : Hid (Bx W5 2 (bp + 1) [.slice ha hn hc, .slice ma mn mc]) := (unhide H4).bl hb5
  clear R4 Q4
  have HE5 : Hid (d = 0 → PW W3 W5 (.slice pa pn pc) (.slice qa qn qc) (decP B).1) := fun q => (unhide HE4 q).bl hb5
  clear hb5 HE4
  by_cases q1 : d = 0
  case neg =>
    have hz : er = d ∧ fn = 0 ∧ hn = 0 := by
      rcases unhide Q5 with ⟨_, _, e2, e3, _, e5⟩ | ⟨_, e2, _⟩
      · refine ⟨?_, by cases e2; rfl, by cases e3; rfl⟩
        rcases e5 with ⟨_, e⟩ | ⟨e, _⟩
        · rw [e, unhide hd]
        · exact absurd ((unhide hd).symm.trans e) q1
      · exact absurd ((unhide hd).symm.trans e2) q1
    obtain ⟨rfl, rfl, rfl⟩ := hz
    have i1 : (er != 0) = true := by simpa using q1
    have m1 := (unhide P4).cell (j := 1) rfl
    have n0 := (unhide H4).cell (j := 0) rfl
    have lP := (unhide P4).lt
    have lH := (unhide H4).lt
    go_wp2_with fail
    rw [← unhide eW5, unhide ebd]
    clear eW5
    go_ret
    exact ⟨rfl, unhide F5⟩
  subst q1
  have E5 := hide ((unhide HE5) rfl)
  clear HE5 P4 H4 F4
  go_wp2_with fail
  rw [← unhide eW5, unhide ebd]
  clear eW5
  refine (program_any (unhide E5).pgv (decP_ok (unhide hd)).1 ((unhide HL).blw (unhide F5) (unhide HG))).mono ?_
  rintro e W6 ⟨fx, L, k, a, ev, rfl, hV, hb6, hn6, hs6⟩
  have F6 : Hid (Below w.heap.size w W6) := (unhide F5).trans (hb6.mono (unhide F5).size)
  have R6 : Hid (Rd W6 (.slice va N vc) B) := (unhide R5).bl hb6
  have Q6 : Hid (LdR B W1 W6 (.slice ca cn cc) (.slice fa fn fc) (.slice ha hn hc) (.slice ma mn mc) er) := (unhide Q5).bl hb6
  have P6 : Hid (Bx W6 2 bp [.slice ca cn cc, .slice fa fn fc]) := (unhide P5).bl hb6
  have H6 : Hid (Bx W6 2 (bp + 1) [.slice ha hn hc, .slice ma mn mc]) := (unhide H5).bl hb6
  clear F5 R5 Q5 P5 H5
  rcases hV.cases with ⟨rfl, hne⟩ | ⟨Ls, rfl, rfl, rfl, rfl, hlen⟩
  · obtain rfl := hn6 rfl
    have hz : er = ev ∧ fn = 0 ∧ cn = 0 ∧ hn = 0 := by
      rcases unhide Q6 with ⟨_, e1, e2, e3, _, e5⟩ | ⟨_, _, _, Ls, e5, _⟩
      · refine ⟨?_, by cases e2; rfl, by cases e1; rfl, by cases e3; rfl⟩
        rcases e5 with ⟨e, _⟩ | ⟨_, k', a', e⟩
        · exact absurd (unhide hd) e
        · exact (e.uniq hV).2.2.2
      · have := (e5.uniq hV).1; cases this
    obtain ⟨rfl, rfl, rfl, rfl⟩ := hz
    clear hn6 hs6 hb6 hV
    have i2 : (er != 0) = true := by simpa using hne
    have m0 := (unhide P6).cell (j := 0) rfl
    have m1 := (unhide P6).cell (j := 1) rfl
    have n0 := (unhide H6).cell (j := 0) rfl
    have lP := (unhide P6).lt
    have lH := (unhide H6).lt
    go_wp2_with fail
    go_ret
    exact ⟨rfl, (unhide F6).trans (((Below.refl _ _).alloc (Nat.le_refl _) _).alloc (by simp) _ |>.mono (unhide F6).size)⟩
  obtain ⟨gv, nv, rfl, hF⟩ := hs6 Ls rfl
  obtain ⟨ga, gc, na, nc, rfl, rfl⟩ := hF.shape
  have hz : er = 0 ∧ PW W1 W6 (.slice ca cn cc) (.slice fa fn fc) (decP B).1 ∧ FcR W1.heap.size W6 (.slice ha hn hc) (.slice ma mn mc) Ls := by
    rcases unhide Q6 with ⟨e0, _, _, _, _, e5⟩ | ⟨e1, _, e2, Ls', e5, e6⟩
    · rcases e5 with ⟨e, _⟩ | ⟨_, k', a', e⟩
      · exact absurd (unhide hd) e
      · have := (e.uniq hV).1; cases this
    · have := (e5.uniq hV).1
      cases this
      exact ⟨e1, e2, e6⟩
  obtain ⟨rfl, hA6, hX6⟩ := hz
  have A6 := hide hA6
  have X6 := hide hX6
  have hml : Ls.length ≤ 128 := by rw [hlen]; exact (decP_nn (unhide OB) (unhide hd)).2.2.2
  obtain ⟨M, hM⟩ : ∃ M, Hid (Ls.length = M) := ⟨_, rfl⟩
  have Y6 := hide hF
  rw [unhide hM] at Y6 ⊢
  clear hA6 hX6 hF hn6 hs6 hb6 hV Q6
  obtain ⟨W7, eW7⟩ : ∃ W7, Hid (W7 = (W6.alloc (.cells #[.slice ga M gc, .slice na M nc] 37)).alloc (.cells #[.int .i64 0, .int .i64 0] 41)) := ⟨_, rfl⟩
  have hb7 : Below W6.heap.size W6 W7 := by rw [unhide eW7]; exact ((Below.refl _ _).alloc (Nat.le_refl _) _).alloc (by simp) _
  obtain ⟨bg, ebg⟩ : ∃ b, Hid (W6.heap.size = b) := ⟨_, rfl⟩
  have G7 : Hid (Bx W7 2 bg [.slice ga M gc, .slice na M nc]) := by rw [unhide eW7]; exact (Bx.new rfl (unhide ebg)).fr (S := fun _ => False) ((Fr.refl _ _).alloc _) (fun e => e)
  have F7 : Hid (Below w.heap.size w W7) := (unhide F6).trans (hb7.mono (unhide F6).size)
  have R7 : Hid (Rd W7 (.slice va N vc) B) := (unhide R6).bl hb7
  have P7 : Hid (Bx W7 2 bp [.slice ca cn cc, .slice fa fn fc]) := (unhide P6).bl hb7
  have H7 : Hid (Bx W7 2 (bp + 1) [.slice ha hn hc, .slice ma mn mc]) := (unhide H6).bl hb7
  have A7 : Hid (PW W1 W7 (.slice ca cn cc) (.slice fa fn fc) (decP B).1) := (unhide A6).bl hb7
  have X7 : Hid (FcR W1.heap.size W7 (.slice ha hn hc) (.slice ma mn mc) Ls) := (unhide X6).bl hb7
  have Y7 : Hid (FcR W5.heap.size W7 (.slice ga M gc) (.slice na M nc) Ls) := (unhide Y6).bl hb7
  clear F6 R6 H6 A6 X6 Y6
  clear hb7
  have m0 := (unhide P6).cell (j := 0) rfl
  have m1 := (unhide P6).cell (j := 1) rfl
  have lP := (unhide P6).lt
  go_wp2_with fail
  rw [← unhide eW7, unhide ebg]
  clear eW7 m0 m1 lP P6
  refine (enP_any (unhide A7).pgv (decP_ok (unhide hd)).1 ((unhide HL).blw (unhide F7) (unhide HG)) (fun _ => decP_nn (unhide OB) (unhide hd))).mono ?_
  rw [decP_one (unhide OB) (unhide hd)]
  rintro e W8 ⟨bv, rfl, hb8, hg8, -⟩
  have K8 : Hid (Rd W8 bv B) := Rd.of_ro (Ro.of_own (hg8 rfl))
  have F8 : Hid (Below w.heap.size w W8) := (unhide F7).trans (hb8.mono (unhide F7).size)
  have R8 : Hid (Rd W8 (.slice va N vc) B) := (unhide R7).bl hb8
  have P8 : Hid (Bx W8 2 bp [.slice ca cn cc, .slice fa fn fc]) := (unhide P7).bl hb8
  have H8 : Hid (Bx W8 2 (bp + 1) [.slice ha hn hc, .slice ma mn mc]) := (unhide H7).bl hb8
  have A8 : Hid (PW W1 W8 (.slice ca cn cc) (.slice fa fn fc) (decP B).1) := (unhide A7).bl hb8
  have X8 : Hid (FcR W1.heap.size W8 (.slice ha hn hc) (.slice ma mn mc) Ls) := (unhide X7).bl hb8
  have Y8 : Hid (FcR W5.heap.size W8 (.slice ga M gc) (.slice na M nc) Ls) := (unhide Y7).bl hb8
  have G8 : Hid (Bx W8 2 bg [.slice ga M gc, .slice na M nc]) := (unhide G7).bl hb8
  clear F7 R7 P7 H7 A7 X7 Y7 G7
  clear hb8 hg8
  go_wp2_with fail
  refine (same_any _ _ B W8 (unhide K8) (unhide R8)).mono ?_
  rintro e W9 ⟨rfl, k9, e9⟩
  have hb9 : Below W8.heap.size W8 W9 := by rw [e9]; exact (Fr.drewN (S := fun _ => False) k9).below (Nat.le_refl _) (fun _ _ e => e)
  have F9 : Hid (Below w.heap.size w W9) := (unhide F8).trans (hb9.mono (unhide F8).size)
  have H9 : Hid (Bx W9 2 (bp + 1) [.slice ha hn hc, .slice ma mn mc]) := (unhide H8).bl hb9
  have X9 : Hid (FcR W1.heap.size W9 (.slice ha hn hc) (.slice ma mn mc) Ls) := (unhide X8).bl hb9
  have Y9 : Hid (FcR W5.heap.size W9 (.slice ga M gc) (.slice na M nc) Ls) := (unhide Y8).bl hb9
  have G9 : Hid (Bx W9 2 bg [.slice ga M gc, .slice na M nc]) := (unhide G8).bl hb9
  clear F8 H8 X8 Y8 G8
  clear hb9 e9 K8 R8 P8 A8
  have h0 := (unhide H9).cell (j := 0) rfl
  have h1 := (unhide H9).cell (j := 1) rfl
  have g0 := (unhide G9).cell (j := 0) rfl
  have g1 := (unhide G9).cell (j := 1) rfl
  have lH := (unhide H9).lt
  have lG := (unhide G9).lt
  go_wp2_with fail
  refine (sameFacts_any (Ls := Ls) (by omega) (unhide X9).fcw (unhide Y9).fcw).mono ?_
  rintro e W10 ⟨rfl, hb10⟩
  have F10 : Hid (Below w.heap.size w W10) := (unhide F9).trans (hb10.mono (unhide F9).size)
  clear h0 h1 g0 g1 lH lG hb10
  go_wp2_with fail
  go_ret
  exact ⟨rfl, unhide F10⟩
end Go.Proofs.YtpfogphpeegfdaaGreatDoor
