/-
  taken: a copy of an object that is right.
-/
import Derived.Test.YtfoanikkngmeiaaLFi
import Derived.Test.YtfoanikkngmeiaaHOb
namespace Go.Proofs.Ytfoanikkngmeiaa
open Go.RowKit
set_option linter.unusedVariables false
set_option linter.unusedSimpArgs false
/-- What is told of an object of the program's. -/
def hp.OD.ob (d : hp.OD) : Ob := ⟨d.ao.k, d.ao.its, d.ao.keys, d.ao.fn, d.ao.cap, d.ao.shut⟩
theorem od_new {w : World} {d : hp.OD} {arr : Array Value} {t : TypeId} (hb : d.b = w.heap.size) (hcs : arr.toList = d.cells) (hk : 6 ≤ d.k ∧ d.k ≤ 9)
    (hi : Ro w 2 d.iv d.its.length (flt enI d.its)) (hq : Ro w 1 d.kv d.keys.length (flt enL d.keys)) (hpl : d.k ≠ 7 → d.kv = .slice none 0 0 ∧ d.keys = []) : d.ok (w.alloc (.cells arr t)) := by
  refine ⟨hk, fun j u hu => ?_, fun j => ?_, ?_, ?_, hpl⟩
  · have := new_cells w arr t j u (by rw [hcs]; exact hu)
    rw [Go.WideShapes.add_plain, Nat.zero_add] at this
    rw [hb]
    exact this
  · rw [hb]; exact hp.frozen_new _ _ _ _
  · exact hi.fr ((Fr.refl (fun _ => False) w).alloc _) (fun _ _ e => e)
  · have := hq.fr ((Fr.refl (fun _ => False) w).alloc (.cells arr t)) (fun _ _ e => e)
    rw [flL_map] at this
    exact this
/-- Behind taken. -/
def TkP (w : World) (o : Ob) (e : Ending) (w' : World) : Prop :=
  ∃ d : hp.OD, e = .returned d.face ∧ d.ok w' ∧ d.ob = o ∧ (∀ k, d.mine k → w.heap.size ≤ k) ∧ (d.iv.ownBlock ≠ some d.b ∧ d.kv.ownBlock ≠ some d.b ∧ ∀ k, d.iv.ownBlock = some k → d.kv.ownBlock ≠ some k) ∧ Below w.heap.size w w'
theorem TkP.of {w w1 : World} {o : Ob} {d : hp.OD} {arr : Array Value} {t : TypeId} (hb : d.b = w1.heap.size) (hcs : arr.toList = d.cells) (hk : 6 ≤ d.k ∧ d.k ≤ 9)
    (hi : Ro w1 2 d.iv d.its.length (flt enI d.its)) (hq : Ro w1 1 d.kv d.keys.length (flt enL d.keys)) (hpl : d.k ≠ 7 → d.kv = .slice none 0 0 ∧ d.keys = [])
    (ho : d.ob = o) (h1 : ∀ k, d.iv.ownBlock = some k → w.heap.size ≤ k) (h2 : ∀ k, d.kv.ownBlock = some k → w.heap.size ≤ k) (h3 : ∀ k, d.iv.ownBlock = some k → d.kv.ownBlock ≠ some k) (hB : Below w.heap.size w w1) :
    TkP w o (.returned d.face) (w1.alloc (.cells arr t)) := by
  refine ⟨d, rfl, od_new hb hcs hk hi hq hpl, ho, fun k hm => ?_, ⟨fun e => ?_, fun e => ?_, h3⟩, hB.alloc hB.size _⟩
  · rcases hm with e | e | e
    · rw [e, hb]; exact hB.size
    · exact h1 k e
    · exact h2 k e
  · have := hi.lt _ e; omega
  · have := hq.lt _ e; omega
set_option maxRecDepth 100000 in
set_option maxHeartbeats 1600000 in
theorem taken_any {w : World} {v : Value} {o : Ob} (h : ObA w v o) (hr : fRb o = true) : Calls Try.prog 19 #[v] w (TkP w o) := by
  obtain ⟨iv, kv, rfl, hi, hk⟩ := h
  obtain ⟨kd, its, ks, fn, cp, sh⟩ := o
  simp only at *
  have hkd : kd = 6 ∨ kd = 7 ∨ kd = 8 ∨ kd = 9 := by
    unfold fRb at hr
    simp only at hr
    by_cases h6 : kd = 6
    · exact .inl h6
    by_cases h7 : kd = 7
    · exact .inr (.inl h7)
    by_cases h8 : kd = 8
    · exact .inr (.inr (.inl h8))
    by_cases h9 : kd = 9
    · exact .inr (.inr (.inr h9))
    rw [if_neg h6, if_neg h7, if_neg h8, if_neg h9] at hr
    cases hr
  have hl : its.length ≤ 1048576 ∧ ks.length ≤ 1048576 := by
    unfold fRb at hr
    simp only at hr
    rcases hkd with rfl | rfl | rfl | rfl
    · simp at hr; have e := hr.1.1.2; subst e; simp; omega
    · simp at hr; have := hr.1.1.1; omega
    · simp at hr; have e := hr.1.1.2; subst e; simp; omega
    · simp at hr; have e := hr.1.2; subst e; simp; omega
  have HC : Hid (∀ O, Calls Try.prog 37 #[iv] (w.alloc O) fun e w' => ∃ v', e = .returned v' ∧ Gx (w.alloc O) 2 enI its v' w') := fun O => cloneV_any (hi.below (bl_box w O) (Nat.le_refl _)) hl.1 (oneI its)
  have HK : Hid (∀ W, Below w.heap.size w W → Calls Try.prog 38 #[kv] W fun e w' => ∃ v', e = .returned v' ∧ Gx W 1 enL ks v' w') := fun W b => cloneL_any (hk.below b (Nat.le_refl _)) hl.2 (oneL ks)
  obtain ⟨ia, ic, rfl, hi1, hi2⟩ := hi.shape
  obtain ⟨ka, kc, rfl, hk1, hk2⟩ := hk.shape
  have HB := hide (bl_box w)
  have HR := hide hr
  clear hi hk hr hl
  rcases hkd with rfl | rfl | rfl | rfl
  · clear HK
    go_enter Try.func19, Try.ntmps19
    go_wp2_with fail
    refine (unhide HC _).mono ?_
    rintro e w1 ⟨v1, rfl, g1, g2, g3⟩
    obtain ⟨va, vc, rfl, _, _⟩ := g1.shape
    obtain ⟨q, _, ql⟩ := blk_cells ((g2.block w.heap.size (by simp)).trans (heap_alloc_new w _))
    have q0 := q 0
    have q1 := q 1
    have q2 := q 2
    have q3 := q 3
    have q4 := q 4
    have q5 := q 5
    simp only [List.getElem?_toArray, List.getElem?_cons_zero, List.getElem?_cons_succ] at q0 q1 q2 q3 q4 q5
    have HG := hide (And.intro g1 (And.intro g2 g3))
    clear q g1 g2 g3 HC
    go_wp2_with fail
    go_ret
    have hr := unhide HR
    unfold fRb at hr
    simp at hr
    obtain ⟨⟨⟨r1, r2⟩, r3⟩, r4, r5⟩ := hr
    subst r2
    subst r3
    subst r4
    subst r5
    obtain ⟨g1, g2, g3⟩ := unhide HG
    refine TkP.of (d := { k := 6, b := w1.heap.size, iv := .slice va its.length vc, kv := .slice none 0 0, its := its, keys := [], m := 0, shut := false }) rfl rfl (by simp) g1 (by simpa [flt] using Ro.nil w1 1) (fun _ => ⟨rfl, rfl⟩) (by simp [hp.OD.ob, hp.OD.ao]) (fun k hk => ?_) (fun k hk => by simp [Value.ownBlock] at hk) (fun k hk => by simp [Value.ownBlock]) (bl_past (unhide HB _) g2)
    have := g3 k hk
    simp at this
    omega
  · go_enter Try.func19, Try.ntmps19
    go_wp2_with fail
    refine (unhide HC _).mono ?_
    rintro e w1 ⟨v1, rfl, g1, g2, g3⟩
    obtain ⟨va, vc, rfl, _, _⟩ := g1.shape
    obtain ⟨q, _, ql⟩ := blk_cells ((g2.block w.heap.size (by simp)).trans (heap_alloc_new w _))
    have q0 := q 0
    have q1 := q 1
    have q2 := q 2
    have q3 := q 3
    have q4 := q 4
    have q5 := q 5
    simp only [List.getElem?_toArray, List.getElem?_cons_zero, List.getElem?_cons_succ] at q0 q1 q2 q3 q4 q5
    have HG := hide (And.intro g1 (And.intro g2 g3))
    have HK1 := hide (unhide HK w1 (bl_past (unhide HB _) g2))
    clear q g1 g2 g3 HC HK
    go_wp2_with fail
    refine (unhide HK1).mono ?_
    rintro e w2 ⟨v2, rfl, y1, y2, y3⟩
    obtain ⟨ya, yc, rfl, _, _⟩ := y1.shape
    have HY := hide (And.intro y1 (And.intro y2 y3))
    clear y1 y2 y3 HK1
    go_wp2_with fail
    go_ret
    have hr := unhide HR
    unfold fRb at hr
    simp at hr
    obtain ⟨⟨r2, r3⟩, r4, r5⟩ := hr
    subst r3
    subst r4
    subst r5
    obtain ⟨g1, g2, g3⟩ := unhide HG
    obtain ⟨y1, y2, y3⟩ := unhide HY
    have hB1 := bl_past (unhide HB _) g2
    have gi := g1.fr (Fr.of_below (S := fun _ => False) y2) (fun _ _ e => e)
    have gl : ∀ k, (Value.slice va its.length vc).ownBlock = some k → w.heap.size ≤ k := fun k hk => by
      have := g3 k hk
      simp at this
      omega
    refine TkP.of (d := { k := 7, b := w2.heap.size, iv := .slice va its.length vc, kv := .slice ya ks.length yc, its := its, keys := ks, m := 0, shut := false }) rfl rfl (by simp) gi y1 (fun e => absurd rfl e) (by simp [hp.OD.ob, hp.OD.ao]) gl (fun k hk => Nat.le_trans hB1.size (y3 k hk)) (fun k hk e => ?_) (bl_past hB1 y2)
    have a1 := g1.lt k hk
    have a2 := y3 k e
    omega
  · clear HK
    go_enter Try.func19, Try.ntmps19
    go_wp2_with fail
    refine (unhide HC _).mono ?_
    rintro e w1 ⟨v1, rfl, g1, g2, g3⟩
    obtain ⟨va, vc, rfl, _, _⟩ := g1.shape
    obtain ⟨q, _, ql⟩ := blk_cells ((g2.block w.heap.size (by simp)).trans (heap_alloc_new w _))
    have q0 := q 0
    have q1 := q 1
    have q2 := q 2
    have q3 := q 3
    have q4 := q 4
    have q5 := q 5
    simp only [List.getElem?_toArray, List.getElem?_cons_zero, List.getElem?_cons_succ] at q0 q1 q2 q3 q4 q5
    have HG := hide (And.intro g1 (And.intro g2 g3))
    clear q g1 g2 g3 HC
    go_wp2_with fail
    go_ret
    have hr := unhide HR
    unfold fRb at hr
    simp at hr
    obtain ⟨⟨⟨r1, r2⟩, r3⟩, r4, r5⟩ := hr
    subst r2
    subst r4
    subst r5
    obtain ⟨g1, g2, g3⟩ := unhide HG
    refine TkP.of (d := { k := 8, b := w1.heap.size, iv := .slice va its.length vc, kv := .slice none 0 0, its := its, keys := [], m := fn, shut := false }) rfl rfl (by simp) g1 (by simpa [flt] using Ro.nil w1 1) (fun _ => ⟨rfl, rfl⟩) (by simp [hp.OD.ob, hp.OD.ao]) (fun k hk => ?_) (fun k hk => by simp [Value.ownBlock] at hk) (fun k hk => by simp [Value.ownBlock]) (bl_past (unhide HB _) g2)
    have := g3 k hk
    simp at this
    omega
  · clear HK
    go_enter Try.func19, Try.ntmps19
    go_wp2_with fail
    refine (unhide HC _).mono ?_
    rintro e w1 ⟨v1, rfl, g1, g2, g3⟩
    obtain ⟨va, vc, rfl, _, _⟩ := g1.shape
    obtain ⟨q, _, ql⟩ := blk_cells ((g2.block w.heap.size (by simp)).trans (heap_alloc_new w _))
    have q0 := q 0
    have q1 := q 1
    have q2 := q 2
    have q3 := q 3
    have q4 := q 4
    have q5 := q 5
    simp only [List.getElem?_toArray, List.getElem?_cons_zero, List.getElem?_cons_succ] at q0 q1 q2 q3 q4 q5
    have HG := hide (And.intro g1 (And.intro g2 g3))
    clear q g1 g2 g3 HC
    go_wp2_with fail
    go_ret
    have hr := unhide HR
    unfold fRb at hr
    simp at hr
    obtain ⟨⟨⟨⟨r0, r1⟩, r2⟩, r3⟩, r4⟩ := hr
    subst r3
    subst r4
    obtain ⟨g1, g2, g3⟩ := unhide HG
    refine TkP.of (d := { k := 9, b := w1.heap.size, iv := .slice va its.length vc, kv := .slice none 0 0, its := its, keys := [], m := cp, shut := sh }) rfl rfl (by simp) g1 (by simpa [flt] using Ro.nil w1 1) (fun _ => ⟨rfl, rfl⟩) (by simp [hp.OD.ob, hp.OD.ao]) (fun k hk => ?_) (fun k hk => by simp [Value.ownBlock] at hk) (fun k hk => by simp [Value.ownBlock]) (bl_past (unhide HB _) g2)
    have := g3 k hk
    simp at this
    omega
end Go.Proofs.Ytfoanikkngmeiaa
