/-
  The first fault of a function's code.
-/
import Derived.Test.YtlogmdldjmkkjaaGreatDoorCon
import Derived.Test.YtlogmdldjmkkjaaGreatDoorOps2
namespace Go.Proofs.YtlogmdldjmkkjaaGreatDoor
open Go.RowKit
set_option linter.unusedVariables false
set_option linter.unusedSimpArgs false
def ckB (p : Pg) (a : Int) : Bool := match p.consts[a.toNat]? with | some c => c.kind == 4 | none => false
def nmB (p : Pg) (f : Fc) (op a : Int) : Bool :=
  if kdI op = 2 then decide (a < (f.code.length : Int)) else if kdI op = 3 then decide (a < f.locals) else if kdI op = 5 then decide (a < (p.funcs.length : Int))
  else if kdI op = 4 then (if a < (p.consts.length : Int) then (if op = 5 then true else ckB p a) else false) else true
theorem three_boxes (w : World) (u v x : Array Value) (e1 e2 e3 : TypeId) : (∀ j, (((w.alloc (.cells u e1)).alloc (.cells v e2)).alloc (.cells x e3)).cell? ⟨w.heap.size, j, none⟩ = u[j]?) ∧ (∀ j, (((w.alloc (.cells u e1)).alloc (.cells v e2)).alloc (.cells x e3)).cell? ⟨w.heap.size + 1, j, none⟩ = v[j]?) ∧ (∀ j, (((w.alloc (.cells u e1)).alloc (.cells v e2)).alloc (.cells x e3)).cell? ⟨w.heap.size + 1 + 1, j, none⟩ = x[j]?) ∧ Below w.heap.size w (((w.alloc (.cells u e1)).alloc (.cells v e2)).alloc (.cells x e3)) ∧ (((w.alloc (.cells u e1)).alloc (.cells v e2)).alloc (.cells x e3)).heap.size = w.heap.size + 3 := by
  have h1 := heap_alloc_new w (.cells u e1)
  have h2 := heap_alloc_new (w.alloc (.cells u e1)) (.cells v e2)
  have h3 := heap_alloc_new ((w.alloc (.cells u e1)).alloc (.cells v e2)) (.cells x e3)
  simp only [World.size_alloc] at h2 h3
  have k1 : (((w.alloc (.cells u e1)).alloc (.cells v e2)).alloc (.cells x e3)).heap[w.heap.size]? = some (.cells u e1) := (Below.heap_alloc _ _ _ (by simp; omega)).trans ((Below.heap_alloc _ _ _ (by simp)).trans h1)
  have k2 : (((w.alloc (.cells u e1)).alloc (.cells v e2)).alloc (.cells x e3)).heap[w.heap.size + 1]? = some (.cells v e2) := (Below.heap_alloc _ _ _ (by simp)).trans h2
  refine ⟨fun j => by unfold World.cell?; simp only [k1]; rfl, fun j => by unfold World.cell?; simp only [k2]; rfl, fun j => by unfold World.cell?; simp only [h3]; rfl, (((Below.refl _ _).alloc (Nat.le_refl _) _).alloc (by simp) _).alloc (by simp; omega) _, by simp⟩

set_option maxRecDepth 100000 in
set_option maxHeartbeats 6400000 in
theorem there_any {w : World} {pv : Value} {p : Pg} {f : Fc} {x : Fv} (hp : PgV w pv p) (hx : FnV w f x) (op a : Int) (ha : kdI op = 4 → 0 ≤ a) : Calls Tryz.prog 171 #[pv, .agg #[.string x.name, .int .i64 x.params, .int .i64 x.locals, x.cv, x.hv], .agg #[.int .i64 op, .int .i64 a]] w fun e w' => e = .returned (.bool (nmB p f op a)) ∧ Below w.heap.size w w' := by
  obtain ⟨cv, fv, rfl, hc, hf⟩ := hp
  have HC := hide (fun i q (hq : p.consts[i]? = some q) => hc.elem zC hq)
  obtain ⟨_, ca, ccap, rfl, _, _, _⟩ := hc
  obtain ⟨xs, hx1, ⟨_, fa, fcap, rfl, _, _, _⟩, _⟩ := hf
  obtain ⟨a1, c1, a2, c2, rfl⟩ := hx.parts
  simp only
  clear hx
  rw [hx1]
  obtain ⟨r, hr⟩ : ∃ r, Hid (nmB p f op a = r) := ⟨_, rfl⟩
  rw [unhide hr]
  have hr' := unhide hr
  unfold nmB at hr'
  obtain ⟨NC, hNC⟩ : ∃ n, p.consts.length = n := ⟨_, rfl⟩
  obtain ⟨NF, hNF⟩ : ∃ n, p.funcs.length = n := ⟨_, rfl⟩
  obtain ⟨CL, hCL⟩ : ∃ n, f.code.length = n := ⟨_, rfl⟩
  rw [hNC] at HC hr' ⊢
  rw [hNF] at hr' ⊢
  rw [hCL] at hr' ⊢
  have HO := hide (operand_any (((w.alloc (.cells #[.slice ca NC ccap, .slice fa NF fcap] 25)).alloc (.cells #[.string f.name, .int .i64 f.params, .int .i64 f.locals, .slice a1 CL c1, .slice a2 f.hs.length c2] 73)).alloc (.cells #[.int .i64 op, .int .i64 a] 92)) op)
  obtain ⟨t1, t2, t3, t4, t5⟩ := three_boxes w #[.slice ca NC ccap, .slice fa NF fcap] #[.string f.name, .int .i64 f.params, .int .i64 f.locals, .slice a1 CL c1, .slice a2 f.hs.length c2] #[.int .i64 op, .int .i64 a] 25 73 92
  have HT := hide (And.intro t1 (And.intro t2 (And.intro t3 (And.intro t4 t5))))
  obtain ⟨kq, hkq⟩ : ∃ q, kdI op = q := ⟨_, rfl⟩
  rw [hkq] at HO hr' ha
  obtain ⟨oq, hoq⟩ : ∃ q, isOp op = q := ⟨_, rfl⟩
  rw [hoq] at HO
  have HR := hide hr'
  clear t1 t2 t3 t4 t5 hr hr' hkq hoq hNF hCL hx1
  go_enter Tryz.func171, Tryz.ntmps171
  go_wp2_with fail
  refine (unhide HO).mono ?_
  rintro e w2 ⟨rfl, hb2⟩
  have b2 : Below (w.heap.size + 3) (((w.alloc (.cells #[.slice ca NC ccap, .slice fa NF fcap] 25)).alloc (.cells #[.string f.name, .int .i64 f.params, .int .i64 f.locals, .slice a1 CL c1, .slice a2 f.hs.length c2] 73)).alloc (.cells #[.int .i64 op, .int .i64 a] 92)) w2 := hb2.mono (by rw [(unhide HT).2.2.2.2]; exact Nat.le_refl _)
  have p0 := (b2.cell (p := ⟨w.heap.size, 0, none⟩) (by simp)).trans ((unhide HT).1 0)
  have p1 := (b2.cell (p := ⟨w.heap.size, 1, none⟩) (by simp)).trans ((unhide HT).1 1)
  have q2 := (b2.cell (p := ⟨w.heap.size + 1, 2, none⟩) (by simp)).trans ((unhide HT).2.1 2)
  have q3 := (b2.cell (p := ⟨w.heap.size + 1, 3, none⟩) (by simp)).trans ((unhide HT).2.1 3)
  have r0 := (b2.cell (p := ⟨w.heap.size + 1 + 1, 0, none⟩) (by simp)).trans ((unhide HT).2.2.1 0)
  have r1 := (b2.cell (p := ⟨w.heap.size + 1 + 1, 1, none⟩) (by simp)).trans ((unhide HT).2.2.1 1)
  simp only [List.getElem?_toArray, List.getElem?_cons_zero, List.getElem?_cons_succ] at p0 p1 q2 q3 r0 r1
  have hBB := hide ((unhide HT).2.2.2.1.trans (b2.mono (by omega)))
  clear hb2 b2 HO HT
  by_cases h2 : kq = 2
  · subst h2
    obtain rfl := unhide HR
    (clear HR; go_wp2_with fail; go_ret; exact ⟨by first | rfl | simp, unhide hBB⟩)
  · by_cases h3 : kq = 3
    · subst h3
      obtain rfl := unhide HR
      (clear HR; go_wp2_with fail; go_ret; exact ⟨by first | rfl | simp, unhide hBB⟩)
    · by_cases h5 : kq = 5
      · subst h5
        obtain rfl := unhide HR
        (clear HR; go_wp2_with fail; go_ret; exact ⟨by first | rfl | simp, unhide hBB⟩)
      · by_cases h4 : kq = 4
        · subst h4
          have ha0 := ha rfl
          by_cases hl : a < (NC : Int)
          · by_cases h55 : op = 5
            · subst h55
              obtain rfl : r = true := by have := unhide HR; simp [hl] at this; exact this
              (clear HR; go_wp2_with fail; go_ret; exact ⟨by first | rfl | simp, unhide hBB⟩)
            · have k5 : (op == 5) = false := beq_eq_false_iff_ne.2 h55
              obtain ⟨n, rfl⟩ : ∃ n : Nat, a = (n : Int) := ⟨a.toNat, by omega⟩
              obtain ⟨cc, hcc⟩ : ∃ c, p.consts[n]? = some c := ⟨_, List.getElem?_eq_getElem (by omega)⟩
              obtain ⟨b, off, _, e, _, _, hb, cs⟩ := unhide HC n cc hcc
              cases e
              obtain rfl : r = (cc.kind == 4) := by
                have := unhide HR
                simp only [if_pos hl, if_neg h55] at this
                rw [← this]
                simp [ckB, hcc]
              have y0 : w2.cell? ⟨b, off + n * 3, none⟩ = some (.int .i64 cc.kind) := ((unhide hBB).cell (p := ⟨b, off + n * 3, none⟩) hb).trans (cs 0 _ rfl)
              have hbr := Nat.lt_of_lt_of_le hb (unhide hBB).size
              clear cs hcc
              (clear HR; go_wp2_with fail; go_ret; exact ⟨by first | rfl | simp, unhide hBB⟩)
          · obtain rfl : r = false := by have := unhide HR; simp [hl] at this; exact this
            have kl : decide (a < (NC : Int)) = false := decide_eq_false hl
            have kl' : (NC : Int) ≤ a := by omega
            (clear HR; go_wp2_with fail; go_ret; exact ⟨by first | rfl | simp, unhide hBB⟩)
        · obtain rfl : r = true := by have := unhide HR; simp [h2, h3, h4, h5] at this; exact this
          have z2 : (kq == 2) = false := beq_eq_false_iff_ne.2 h2
          have z3 : (kq == 3) = false := beq_eq_false_iff_ne.2 h3
          have z4 : (kq == 4) = false := beq_eq_false_iff_ne.2 h4
          have z5 : (kq == 5) = false := beq_eq_false_iff_ne.2 h5
          (clear HR; go_wp2_with fail; go_ret; exact ⟨by first | rfl | simp, unhide hBB⟩)


set_option linter.unusedVariables false
set_option linter.unusedSimpArgs false
theorem two_boxes (w : World) (u v : Array Value) (e e' : TypeId) : (∀ j, ((w.alloc (.cells u e)).alloc (.cells v e')).cell? ⟨w.heap.size, j, none⟩ = u[j]?) ∧ (∀ j, ((w.alloc (.cells u e)).alloc (.cells v e')).cell? ⟨w.heap.size + 1, j, none⟩ = v[j]?) ∧ Below w.heap.size w ((w.alloc (.cells u e)).alloc (.cells v e')) ∧ ((w.alloc (.cells u e)).alloc (.cells v e')).heap.size = w.heap.size + 2 := by
  have h1 := heap_alloc_new w (.cells u e)
  have h2 := heap_alloc_new (w.alloc (.cells u e)) (.cells v e')
  have h3 : ((w.alloc (.cells u e)).alloc (.cells v e')).heap[w.heap.size]? = some (.cells u e) := (Below.heap_alloc _ _ _ (by simp)).trans h1
  simp only [World.size_alloc] at h2
  refine ⟨fun j => by unfold World.cell?; simp only [h3]; rfl, fun j => by unfold World.cell?; simp only [h2]; rfl, ((Below.refl _ _).alloc (Nat.le_refl _) _).alloc (by simp) _, by simp⟩
theorem erN_pos {op a : Int} (h : erN op a = 0) (hk : kdI op = 4) : 0 ≤ a := by
  have hop : 0 ≤ op ∧ op < 67 := by
    by_cases q : 0 ≤ op ∧ op < 67
    · exact q
    · rw [kdI_no q] at hk; cases hk
  obtain ⟨n, rfl⟩ : ∃ n : Nat, op = (n : Int) := ⟨op.toNat, by omega⟩
  have hn : n < 67 := by omega
  rw [kdI_nat hn] at hk
  unfold erN okB at h
  rw [isOp_nat hn] at h
  by_cases q : 0 ≤ a
  · exact q
  · have : rightB (kd n) a = false := by
      have hk2 : kd n = 4 := by omega
      rw [hk2]
      unfold rightB
      have : lo 4 = 0 := rfl
      simp [this, q]
    simp [this] at h
/-- The first fault of instructions. -/
def cdG (p : Pg) (f : Fc) : List (Int × Int) → Nat → Option (Int × Int)
  | [], _ => none
  | (op, a) :: r, i => if erN op a ≠ 0 then some ((i : Int), erN op a) else if nmB p f op a = false then some ((i : Int), 8) else cdG p f r (i + 1)
def cdF (p : Pg) (f : Fc) : Option (Int × Int) := cdG p f f.code 0
theorem cdG_at {p : Pg} {f : Fc} {l : List (Int × Int)} {i : Nat} {q : Int × Int} (h : l[i]? = some q) : cdG p f (l.drop i) i = if erN q.1 q.2 ≠ 0 then some ((i : Int), erN q.1 q.2) else if nmB p f q.1 q.2 = false then some ((i : Int), 8) else cdG p f (l.drop (i + 1)) (i + 1) := by
  obtain ⟨hi, hq⟩ := List.getElem?_eq_some_iff.1 h
  obtain ⟨op, a⟩ := q
  rw [List.drop_eq_getElem_cons hi, hq, cdG]
set_option maxRecDepth 100000 in
set_option maxHeartbeats 6400000 in
theorem checkCode_any {w : World} {pv : Value} {p : Pg} {f : Fc} {x : Fv} (hp : PgV w pv p) (hx : FnV w f x) (hN : f.code.length ≤ 9000000000000) : Calls Tryz.prog 131 #[pv, .agg #[.string x.name, .int .i64 x.params, .int .i64 x.locals, x.cv, x.hv]] w fun e w' => e = .returned (erV (cdF p f)) ∧ Below w.heap.size w w' := by
  have HPV := hide hp
  have HFN := hide hx
  obtain ⟨cv, fv, rfl, hc, hf⟩ := hp
  obtain ⟨_, ca, ccap, rfl, _, _, _⟩ := hc
  obtain ⟨xs, hx1, ⟨_, fa, fcap, rfl, _, _, _⟩, _⟩ := hf
  obtain ⟨a1, c1, a2, c2, rfl⟩ := hx.parts
  have HEL := hide (fun i q (hq : f.code[i]? = some q) => hx.2.2.2.1.elem zI hq)
  simp only at HEL ⊢
  clear hx
  rw [hx1] at HPV ⊢
  obtain ⟨r, hr⟩ : ∃ r, Hid (cdF p f = r) := ⟨_, rfl⟩
  rw [unhide hr]
  obtain ⟨NC, hNC⟩ : ∃ n, p.consts.length = n := ⟨_, rfl⟩
  obtain ⟨NF, hNF⟩ : ∃ n, p.funcs.length = n := ⟨_, rfl⟩
  obtain ⟨L, hL⟩ : ∃ n, Hid (f.code.length = n) := ⟨_, rfl⟩
  rw [hNC, hNF] at HPV ⊢
  rw [unhide hL] at hN HEL HFN ⊢
  obtain ⟨t1, t2, t3, t4⟩ := two_boxes w #[.slice ca NC ccap, .slice fa NF fcap] #[.string f.name, .int .i64 f.params, .int .i64 f.locals, .slice a1 L c1, .slice a2 f.hs.length c2] 25 73
  have HT := hide (And.intro t1 (And.intro t2 (And.intro t3 t4)))
  clear t1 t2 t3 t4 hNC hNF hx1
  go_enter Tryz.func131, Tryz.ntmps131
  go_wp2_with fail
  go_loopg [11] L (fun gg t11 wr => ∃ (i : Nat), Hid (i + gg = L) ∧ t11 = .int .i64 (i : Int) ∧ Hid (Below (w.heap.size + 2) ((w.alloc (.cells #[.slice ca NC ccap, .slice fa NF fcap] 25)).alloc (.cells #[.string f.name, .int .i64 f.params, .int .i64 f.locals, .slice a1 L c1, .slice a2 f.hs.length c2] 73)) wr) ∧ Hid (cdG p f (f.code.drop i) i = r))
  case atStart => exact ⟨0, by unfold Hid; omega, rfl, Below.refl _ _, by unfold Hid; exact unhide hr⟩
  case round =>
    obtain ⟨i, hi, rfl, hB0, hG⟩ := hrel
    have hsz := (unhide hB0).size
    rw [(unhide HT).2.2.2] at hsz
    have hBw := (unhide HT).2.2.1.trans ((unhide hB0).mono (by omega))
    have hB := hide hBw
    clear hBw
    by_cases hlt : i < L
    · obtain ⟨q, hq⟩ : ∃ q, f.code[i]? = some q := ⟨_, List.getElem?_eq_getElem (by rw [unhide hL]; exact hlt)⟩
      obtain ⟨b, off, _, e, _, _, hb, cs⟩ := unhide HEL i q hq
      cases e
      have hG2 := unhide hG
      rw [cdG_at hq] at hG2
      have HG2 := hide hG2
      obtain ⟨op, a⟩ := q
      have k0 : wr.cell? ⟨b, off + i * 2, none⟩ = some (.int .i64 op) := ((unhide hB).cell (p := ⟨b, off + i * 2, none⟩) hb).trans (cs 0 _ rfl)
      have k1 : wr.cell? ⟨b, off + i * 2 + 1, none⟩ = some (.int .i64 a) := ((unhide hB).cell (p := ⟨b, off + i * 2 + 1, none⟩) hb).trans (cs 1 _ rfl)
      have hbr := Nat.lt_of_lt_of_le hb (unhide hB).size
      have i0 : (0 : Int) ≤ (i : Int) := by omega
      have i1 : (i : Int) < (L : Int) := by omega
      have HK := hide (check_any (wr.alloc (.cells #[.int .i64 op, .int .i64 a] 92)) op a)
      obtain ⟨er, her⟩ : ∃ z, erN op a = z := ⟨_, rfl⟩
      have HPOS : Hid (er = 0 → kdI op = 4 → 0 ≤ a) := fun h h2 => erN_pos (her.trans h) h2
      rw [her] at HK
      simp only [her] at HG2
      clear cs hq hG2 her
      go_wp2_with fail
      refine (unhide HK).mono ?_
      rintro e w2 ⟨rfl, hb2⟩
      obtain ⟨hbx, hBw, hwl⟩ := boxN (hb2.mono (by simp) : Below (wr.heap.size + 1) _ w2)
      have x0 := hbx 0 _ rfl
      have x1 := hbx 1 _ rfl
      have bb := (unhide hB0).trans (hBw.mono hsz)
      have p0 := (bb.cell (p := ⟨w.heap.size, 0, none⟩) (by simp)).trans ((unhide HT).1 0)
      have p1 := (bb.cell (p := ⟨w.heap.size, 1, none⟩) (by simp)).trans ((unhide HT).1 1)
      have f0 := (bb.cell (p := ⟨w.heap.size + 1, 0, none⟩) (by simp)).trans ((unhide HT).2.1 0)
      have f1 := (bb.cell (p := ⟨w.heap.size + 1, 1, none⟩) (by simp)).trans ((unhide HT).2.1 1)
      have f2 := (bb.cell (p := ⟨w.heap.size + 1, 2, none⟩) (by simp)).trans ((unhide HT).2.1 2)
      have f3 := (bb.cell (p := ⟨w.heap.size + 1, 3, none⟩) (by simp)).trans ((unhide HT).2.1 3)
      have f4 := (bb.cell (p := ⟨w.heap.size + 1, 4, none⟩) (by simp)).trans ((unhide HT).2.1 4)
      simp only [List.getElem?_toArray, List.getElem?_cons_zero, List.getElem?_cons_succ] at p0 p1 f0 f1 f2 f3 f4
      have hBB := hide ((unhide hB).trans (hBw.mono (unhide hB).size))
      have BB := hide bb
      clear hb2 hbx hBw k0 k1 bb HK
      by_cases he : er = 0
      · subst he
        have hG3 := unhide HG2
        rw [if_neg (by simp)] at hG3
        have hth := there_any ((unhide HPV).below (unhide hBB) (Nat.le_refl _)) ((unhide HFN).below (unhide hBB) (Nat.le_refl _)) op a (unhide HPOS rfl)
        simp only at hth
        cases hn : nmB p f op a
        · rw [hn] at hth
          obtain rfl : r = some ((i : Int), 8) := by rw [← hG3, if_pos hn]
          have HTH := hide hth
          clear hth hG3
          go_wp2_with fail
          refine (unhide HTH).mono ?_
          rintro e w3 ⟨rfl, hb3⟩
          have hB3 := hide ((unhide hBB).trans (hb3.mono (unhide hBB).size))
          clear hb3
          go_wp2_with fail
          go_ret
          exact ⟨rfl, unhide hB3⟩
        · rw [hn] at hth
          rw [if_neg (by rw [hn]; decide)] at hG3
          have HTH := hide hth
          have HG3 := hide hG3
          clear hth hG3
          go_wp2_with fail
          refine (unhide HTH).mono ?_
          rintro e w3 ⟨rfl, hb3⟩
          have hB3 := hide ((unhide BB).trans (hb3.mono (by omega)))
          clear hb3
          go_wp2_with fail
          go_roundg (gk - 1)
          case measure => have := unhide hi; omega
          case rel => exact ⟨i + 1, by have := unhide hi; unfold Hid; omega, by go_num, hB3, HG3⟩
      · have ke : (er != 0) = true := by rw [bne_iff_ne]; exact he
        obtain rfl : r = some ((i : Int), er) := by rw [← unhide HG2, if_pos he]
        go_wp2_with fail
        go_ret
        exact ⟨rfl, unhide hBB⟩
    · have hiL : L = i := by have := unhide hi; omega
      subst hiL
      obtain rfl : r = none := by
        rw [← unhide hG, List.drop_eq_nil_of_le (by rw [unhide hL]; exact Nat.le_refl _)]
        rfl
      go_wp2_with fail
      go_ret
      exact ⟨rfl, unhide hB⟩
end Go.Proofs.YtlogmdldjmkkjaaGreatDoor
