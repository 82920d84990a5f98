/-
  Does an operand name something?
-/
import Derived.Test.YtiknljilfpekfaaDoorCon
import Derived.Test.YtiknljilfpekfaaDoorOps2
namespace Go.Proofs.YtiknljilfpekfaaDoor
open Go.RowKit
set_option linter.unusedVariables false
set_option linter.unusedSimpArgs false
def ckB (p : Pg) (a : Int) : Bool := match p.consts[a.toNat]? with | some c => c.kind == 4 | none => false
def nmB (p : Pg) (f : Fc) (op a : Int) : Bool :=
  if kdI op = 2 then decide (a < (f.code.length : Int)) else if kdI op = 3 then decide (a < f.locals) else if kdI op = 5 then decide (a < (p.funcs.length : Int))
  else if kdI op = 4 then (if a < (p.consts.length : Int) then (if op = 5 then true else ckB p a) else false) else true
theorem three_boxes (w : World) (u v x : Array Value) (e1 e2 e3 : TypeId) : (∀ j, (((w.alloc (.cells u e1)).alloc (.cells v e2)).alloc (.cells x e3)).cell? ⟨w.heap.size, j, none⟩ = u[j]?) ∧ (∀ j, (((w.alloc (.cells u e1)).alloc (.cells v e2)).alloc (.cells x e3)).cell? ⟨w.heap.size + 1, j, none⟩ = v[j]?) ∧ (∀ j, (((w.alloc (.cells u e1)).alloc (.cells v e2)).alloc (.cells x e3)).cell? ⟨w.heap.size + 1 + 1, j, none⟩ = x[j]?) ∧ Below w.heap.size w (((w.alloc (.cells u e1)).alloc (.cells v e2)).alloc (.cells x e3)) ∧ (((w.alloc (.cells u e1)).alloc (.cells v e2)).alloc (.cells x e3)).heap.size = w.heap.size + 3 := by
  have h1 := heap_alloc_new w (.cells u e1)
  have h2 := heap_alloc_new (w.alloc (.cells u e1)) (.cells v e2)
  have h3 := heap_alloc_new ((w.alloc (.cells u e1)).alloc (.cells v e2)) (.cells x e3)
  simp only [World.size_alloc] at h2 h3
  have k1 : (((w.alloc (.cells u e1)).alloc (.cells v e2)).alloc (.cells x e3)).heap[w.heap.size]? = some (.cells u e1) := (Below.heap_alloc _ _ _ (by simp; omega)).trans ((Below.heap_alloc _ _ _ (by simp)).trans h1)
  have k2 : (((w.alloc (.cells u e1)).alloc (.cells v e2)).alloc (.cells x e3)).heap[w.heap.size + 1]? = some (.cells v e2) := (Below.heap_alloc _ _ _ (by simp)).trans h2
  refine ⟨fun j => by unfold World.cell?; simp only [k1]; rfl, fun j => by unfold World.cell?; simp only [k2]; rfl, fun j => by unfold World.cell?; simp only [h3]; rfl, (((Below.refl _ _).alloc (Nat.le_refl _) _).alloc (by simp) _).alloc (by simp; omega) _, by simp⟩

set_option maxRecDepth 100000 in
set_option maxHeartbeats 6400000 in
theorem there_any {w : World} {pv : Value} {p : Pg} {f : Fc} {x : Fv} (hp : PgV w pv p) (hx : FnV w f x) (op a : Int) (ha : kdI op = 4 → 0 ≤ a) : Calls Tryd.prog 51 #[pv, .agg #[.string x.name, .int .i64 x.params, .int .i64 x.locals, x.cv, x.hv], .agg #[.int .i64 op, .int .i64 a]] w fun e w' => e = .returned (.bool (nmB p f op a)) ∧ Below w.heap.size w w' := by
  obtain ⟨cv, fv, rfl, hc, hf⟩ := hp
  have HC := hide (fun i q (hq : p.consts[i]? = some q) => hc.elem zC hq)
  obtain ⟨_, ca, ccap, rfl, _, _, _⟩ := hc
  obtain ⟨xs, hx1, ⟨_, fa, fcap, rfl, _, _, _⟩, _⟩ := hf
  obtain ⟨a1, c1, a2, c2, rfl⟩ := hx.parts
  simp only
  clear hx
  rw [hx1]
  obtain ⟨r, hr⟩ : ∃ r, Hid (nmB p f op a = r) := ⟨_, rfl⟩
  rw [unhide hr]
  have hr' := unhide hr
  unfold nmB at hr'
  obtain ⟨NC, hNC⟩ : ∃ n, p.consts.length = n := ⟨_, rfl⟩
  obtain ⟨NF, hNF⟩ : ∃ n, p.funcs.length = n := ⟨_, rfl⟩
  obtain ⟨CL, hCL⟩ : ∃ n, f.code.length = n := ⟨_, rfl⟩
  rw [hNC] at HC hr' ⊢
  rw [hNF] at hr' ⊢
  rw [hCL] at hr' ⊢
  have HO := hide (operand_any (((w.alloc (.cells #[.slice ca NC ccap, .slice fa NF fcap] 41)).alloc (.cells #[.string f.name, .int .i64 f.params, .int .i64 f.locals, .slice a1 CL c1, .slice a2 f.hs.length c2] 25)).alloc (.cells #[.int .i64 op, .int .i64 a] 29)) op)
  obtain ⟨t1, t2, t3, t4, t5⟩ := three_boxes w #[.slice ca NC ccap, .slice fa NF fcap] #[.string f.name, .int .i64 f.params, .int .i64 f.locals, .slice a1 CL c1, .slice a2 f.hs.length c2] #[.int .i64 op, .int .i64 a] 41 25 29
  have HT := hide (And.intro t1 (And.intro t2 (And.intro t3 (And.intro t4 t5))))
  obtain ⟨kq, hkq⟩ : ∃ q, kdI op = q := ⟨_, rfl⟩
  rw [hkq] at HO hr' ha
  obtain ⟨oq, hoq⟩ : ∃ q, isOp op = q := ⟨_, rfl⟩
  rw [hoq] at HO
  have HR := hide hr'
  clear t1 t2 t3 t4 t5 hr hr' hkq hoq hNF hCL hx1
  go_enter Tryd.func51, Tryd.ntmps51
  go_wp2_with fail
  refine (unhide HO).mono ?_
  rintro e w2 ⟨rfl, hb2⟩
  have b2 : Below (w.heap.size + 3) (((w.alloc (.cells #[.slice ca NC ccap, .slice fa NF fcap] 41)).alloc (.cells #[.string f.name, .int .i64 f.params, .int .i64 f.locals, .slice a1 CL c1, .slice a2 f.hs.length c2] 25)).alloc (.cells #[.int .i64 op, .int .i64 a] 29)) w2 := hb2.mono (by rw [(unhide HT).2.2.2.2]; exact Nat.le_refl _)
  have p0 := (b2.cell (p := ⟨w.heap.size, 0, none⟩) (by simp)).trans ((unhide HT).1 0)
  have p1 := (b2.cell (p := ⟨w.heap.size, 1, none⟩) (by simp)).trans ((unhide HT).1 1)
  have q2 := (b2.cell (p := ⟨w.heap.size + 1, 2, none⟩) (by simp)).trans ((unhide HT).2.1 2)
  have q3 := (b2.cell (p := ⟨w.heap.size + 1, 3, none⟩) (by simp)).trans ((unhide HT).2.1 3)
  have r0 := (b2.cell (p := ⟨w.heap.size + 1 + 1, 0, none⟩) (by simp)).trans ((unhide HT).2.2.1 0)
  have r1 := (b2.cell (p := ⟨w.heap.size + 1 + 1, 1, none⟩) (by simp)).trans ((unhide HT).2.2.1 1)
  simp only [List.getElem?_toArray, List.getElem?_cons_zero, List.getElem?_cons_succ] at p0 p1 q2 q3 r0 r1
  have hBB := hide ((unhide HT).2.2.2.1.trans (b2.mono (by omega)))
  clear hb2 b2 HO HT
  by_cases h2 : kq = 2
  · subst h2
    obtain rfl := unhide HR
    (clear HR; go_wp2_with fail; go_ret; exact ⟨by first | rfl | simp, unhide hBB⟩)
  · by_cases h3 : kq = 3
    · subst h3
      obtain rfl := unhide HR
      (clear HR; go_wp2_with fail; go_ret; exact ⟨by first | rfl | simp, unhide hBB⟩)
    · by_cases h5 : kq = 5
      · subst h5
        obtain rfl := unhide HR
        (clear HR; go_wp2_with fail; go_ret; exact ⟨by first | rfl | simp, unhide hBB⟩)
      · by_cases h4 : kq = 4
        · subst h4
          have ha0 := ha rfl
          by_cases hl : a < (NC : Int)
          · by_cases h55 : op = 5
            · subst h55
              obtain rfl : r = true := by have := unhide HR; simp [hl] at this; exact this
              (clear HR; go_wp2_with fail; go_ret; exact ⟨by first | rfl | simp, unhide hBB⟩)
            · have k5 : (op == 5) = false := beq_eq_false_iff_ne.2 h55
              obtain ⟨n, rfl⟩ : ∃ n : Nat, a = (n : Int) := ⟨a.toNat, by omega⟩
              obtain ⟨cc, hcc⟩ : ∃ c, p.consts[n]? = some c := ⟨_, List.getElem?_eq_getElem (by omega)⟩
              obtain ⟨b, off, _, e, _, _, hb, cs⟩ := unhide HC n cc hcc
              cases e
              obtain rfl : r = (cc.kind == 4) := by
                have := unhide HR
                simp only [if_pos hl, if_neg h55] at this
                rw [← this]
                simp [ckB, hcc]
              have y0 : w2.cell? ⟨b, off + n * 3, none⟩ = some (.int .i64 cc.kind) := ((unhide hBB).cell (p := ⟨b, off + n * 3, none⟩) hb).trans (cs 0 _ rfl)
              have hbr := Nat.lt_of_lt_of_le hb (unhide hBB).size
              clear cs hcc
              (clear HR; go_wp2_with fail; go_ret; exact ⟨by first | rfl | simp, unhide hBB⟩)
          · obtain rfl : r = false := by have := unhide HR; simp [hl] at this; exact this
            have kl : decide (a < (NC : Int)) = false := decide_eq_false hl
            have kl' : (NC : Int) ≤ a := by omega
            (clear HR; go_wp2_with fail; go_ret; exact ⟨by first | rfl | simp, unhide hBB⟩)
        · obtain rfl : r = true := by have := unhide HR; simp [h2, h3, h4, h5] at this; exact this
          have z2 : (kq == 2) = false := beq_eq_false_iff_ne.2 h2
          have z3 : (kq == 3) = false := beq_eq_false_iff_ne.2 h3
          have z4 : (kq == 4) = false := beq_eq_false_iff_ne.2 h4
          have z5 : (kq == 5) = false := beq_eq_false_iff_ne.2 h5
          (clear HR; go_wp2_with fail; go_ret; exact ⟨by first | rfl | simp, unhide hBB⟩)

end Go.Proofs.YtiknljilfpekfaaDoor
