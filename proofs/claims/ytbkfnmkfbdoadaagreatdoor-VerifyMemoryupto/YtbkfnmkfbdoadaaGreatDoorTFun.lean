/-
  The document's Function: the heights of a function, or where it is wrong.
-/
import Derived.Test.YtbkfnmkfbdoadaaGreatDoorTWr
namespace Go.Proofs.YtbkfnmkfbdoadaaGreatDoor
open Go.RowKit
set_option linter.unusedVariables false
set_option linter.unusedSimpArgs false
/-- What Function answers. -/
def FuP (f : Fc) (w : World) (e : Ending) (w' : World) : Prop := ∃ (v : Value) (hvs : Option (List Int)) (pl er : Int), e = .returned (.tuple #[v, .int .i64 pl, .int .i64 er]) ∧ FnR f hvs pl er ∧ (hvs = none → v = .slice none 0 0) ∧ (∀ l, hvs = some l → Ro w' 1 v l.length (flt enN l) ∧ ∀ k, v.ownBlock = some k → w.heap.size ≤ k) ∧ Below w.heap.size w w'
/-- The heights so far. -/
structure HsI (f : Fc) (pc : Nat) (l : List Int) : Prop where
  len : l.length = pc
  un : ∀ q, q < pc → ¬ Un f q
  mt : ∀ (q : Nat) (ht : Int), q < pc → (l[q]? = some ht ↔ Mt f ((q : Int), ht))
theorem HsI.push {f : Fc} (hb : ∀ q, ¬ BadM f q) {pc : Nat} {l : List Int} (H : HsI f pc l) {z op a : Int} (hi : f.code[pc]? = some (op, a)) (hm : Mt f ((pc : Int), z)) (hl : pc + 1 = f.code.length → enB op = true) : HsI f (pc + 1) (l ++ [z]) := by
  refine ⟨by rw [List.length_append, H.len]; rfl, fun q hq => ?_, fun q ht hq => ?_⟩
  · by_cases e : q = pc
    · subst e
      rintro ⟨op', a', hi', h⟩
      rw [hi] at hi'
      cases hi'
      rcases h with h | ⟨h1, h2⟩
      · exact h z hm
      · rw [hl h1] at h2; cases h2
    · exact H.un q (by omega)
  · by_cases e : q = pc
    · subst e
      rw [List.getElem?_append_right (by rw [H.len]; exact Nat.le_refl _), H.len, Nat.sub_self]
      constructor
      · intro h
        simp at h
        rw [← h]; exact hm
      · intro h
        by_cases e2 : z = ht
        · rw [e2]; rfl
        · exact absurd ⟨z, op, a, hm, hi, .inl ⟨ht, h, fun e => e2 e.symm⟩⟩ (hb q)
    · rw [List.getElem?_append_left (by rw [H.len]; omega)]
      exact H.mt q ht (by omega)
theorem HsI.all {f : Fc} (hf : OkF f) (hb : ∀ q, ¬ BadM f q) {l : List Int} (H : HsI f f.code.length l) : FnR f (some l) 0 0 := by
  refine .inr (.inr ⟨rfl, rfl, hb, fun q hq => ?_, l, rfl, H.len, fun p ht => ?_⟩)
  · obtain ⟨op, a, hi, _⟩ := id hq
    exact H.un q (List.getElem?_eq_some_iff.1 hi).1 hq
  · by_cases q : p < f.code.length
    · exact H.mt p ht q
    · constructor
      · intro h; rw [List.getElem?_eq_none (by rw [H.len]; omega)] at h; cases h
      · intro h; have := h.bd hf; simp only at this; omega
theorem bad_all {f : Fc} (h : ∀ q, q < f.code.length → ¬ BadM f q) : ∀ q, ¬ BadM f q := fun q hq => by
  obtain ⟨_, _, _, _, hi, _⟩ := id hq
  exact h q (List.getElem?_eq_some_iff.1 hi).1 hq
set_option maxRecDepth 100000 in
set_option maxHeartbeats 6400000 in
theorem tfunction_any {w : World} {f : Fc} {x : Fv} (hf : OkF f) (hx : FnV w f x) :
    Calls Tryz.prog 16 #[.agg #[.string x.name, .int .i64 x.params, .int .i64 x.locals, x.cv, x.hv]] w fun e w' => FuP f w e w' := by
  have HX := hide hx
  have HOF := hide hf
  have hn1 := hf.n1
  have hnm := hf.nm
  obtain ⟨NC, hNC⟩ : ∃ n, Hid (f.code.length = n) := ⟨_, rfl⟩
  have HNm : Hid (1 ≤ NC ∧ NC ≤ 2000) := by rw [← unhide hNC]; exact ⟨hn1, hnm⟩
  obtain ⟨N, hN⟩ : ∃ n, Hid (f.code.length * 65 = n) := ⟨_, rfl⟩
  obtain ⟨i0, hi0⟩ : ∃ q, f.code[0]? = some q := ⟨_, List.getElem?_eq_getElem (by omega)⟩
  obtain ⟨cb, co, cc, ecv, _, _, _, _⟩ := Rx.elem zI hx.2.2.2.1 hi0
  obtain ⟨xn, xp, xl, xcv, xhv⟩ := x
  simp only at ecv
  rw [unhide hNC] at ecv
  subst ecv
  have HCode := hide (fun (pc : Nat) (op a : Int) (hi : f.code[pc]? = some (op, a)) => Rx.elem zI (unhide HX).2.2.2.1 hi)
  simp only at HCode
  have HMet := hide (fun (wx : World) (hB : Below w.heap.size w wx) => met_any (x := ⟨xn, xp, xl, .slice (some ⟨cb, co, none⟩) NC cc, xhv⟩) (unhide HOF) ((unhide HX).below hB (Nat.le_refl _)))
  simp only at HMet
  have HWr := hide (fun (wx : World) (g p : Nat) (L : List Bool) (op a : Int) (hB : Below w.heap.size w wx) (Tb : TB wx g N L) (hM : TbM f L) (hi : f.code[p]? = some (op, a)) => wrong_any (x := ⟨xn, xp, xl, .slice (some ⟨cb, co, none⟩) NC cc, xhv⟩) (unhide HOF) (unhide HX) hB Tb (unhide hN).symm hM hi)
  simp only at HWr
  have HHt := hide (fun (wx : World) (g p : Nat) (L : List Bool) (Tb : TB wx g N L) (hM : TbM f L) (hp : p < NC) => height_any (unhide HOF) Tb (unhide hN).symm hM (by rw [unhide hNC]; exact hp))
  rw [unhide hN] at HMet
  obtain ⟨X1, eX1⟩ : ∃ X1, X1 = (w.alloc (.cells #[.string xn, .int .i64 xp, .int .i64 xl, .slice (some ⟨cb, co, none⟩) NC cc, xhv] 45)) := ⟨_, rfl⟩
  have f1 : Hid (Below (w.heap.size + 1) (w.alloc (.cells #[.string xn, .int .i64 xp, .int .i64 xl, .slice (some ⟨cb, co, none⟩) NC cc, xhv] 45)) X1) := by unfold Hid; rw [eX1]; exact Below.refl _ _
  obtain ⟨y0, y1, y2, y3, y4, yb, yl⟩ := box5 (unhide f1)
  have HYB := hide yb
  have HS1 : Hid (w.heap.size + 1 ≤ X1.heap.size) := by unfold Hid; omega
  clear hx hf hn1 hnm yb hi0
  go_enter Tryz.func16, Tryz.ntmps16
  go_wp2_with fail
  rw [← eX1]
  clear eX1
  refine (unhide HMet _ (unhide HYB)).mono ?_
  rintro e W2 ⟨g, L, rfl, tb, tm, hg, hb⟩
  have T2 := hide tb
  have HM := hide tm
  have F2 : Hid (Below (w.heap.size + 1) (w.alloc (.cells #[.string xn, .int .i64 xp, .int .i64 xl, .slice (some ⟨cb, co, none⟩) NC cc, xhv] 45)) W2) := (unhide f1).trans (hb.mono (unhide HS1))
  clear tb tm hb y0 y1 y2 y3 y4 yl hg
  have HSB := hide (fun (wx : World) (h : Below W2.heap.size W2 wx) => (unhide F2).trans (h.mono (by have := (unhide F2).size; simp at this; omega)))
  have HTB := hide (fun (wx : World) (h : Below W2.heap.size W2 wx) => (unhide T2).fr (S := fun _ => False) (Fr.of_below h) (fun e => e))
  go_wp2_with fail
  go_loopg [6] NC (fun gg t6 wr => ∃ (pc : Nat), Hid (pc + gg = NC) ∧ t6 = .int .i64 (pc : Int) ∧ Hid (∀ q, q < pc → ¬ BadM f q) ∧ Hid (Below W2.heap.size W2 wr))
  case atStart => exact ⟨0, by unfold Hid; omega, rfl, fun q hq => absurd hq (Nat.not_lt_zero q), Below.refl _ _⟩
  case round =>
    obtain ⟨pc, hpc, rfl, hQ, hF⟩ := hrel
    obtain ⟨y0, y1, y2, y3, y4, yb, yl⟩ := box5 (unhide HSB _ (unhide hF))
    have HYB2 := hide yb
    clear yb
    by_cases hlt : pc < NC
    · have c1 : (pc : Int) < (NC : Int) := by omega
      have c2 : pc < 2000 := by have := unhide HNm; omega
      obtain ⟨⟨op, a⟩, hi⟩ : ∃ q, f.code[pc]? = some q := ⟨_, List.getElem?_eq_getElem (by rw [unhide hNC]; exact hlt)⟩
      have HW := hide (unhide HWr wr g pc L op a (unhide HYB2) (unhide HTB _ (unhide hF)) (unhide HM) hi)
      clear hi
      go_wp2_with fail
      refine (unhide HW).mono ?_
      rintro e w4 ⟨b, rfl, hb, hB4⟩
      have HB := hide hb
      have HF4 : Hid (Below W2.heap.size W2 w4) := (unhide hF).trans (hB4.mono (unhide hF).size)
      have HYB4 : Hid (Below w.heap.size w w4) := (unhide HYB2).trans (hB4.mono (unhide HYB2).size)
      clear hb hB4 y0 y1 y2 y3 y4 yl HW
      cases b with
      | true =>
        have HR : Hid (FnR f none (pc : Int) 9) := .inl ⟨rfl, rfl, pc, rfl, (unhide HB).1 rfl, unhide hQ⟩
        go_wp2_with fail
        go_ret3
        exact ⟨_, none, _, _, rfl, unhide HR, fun _ => rfl, fun l hl => (by cases hl), unhide HYB4⟩
      | false =>
        have HQ2 : Hid (∀ q, q < pc + 1 → ¬ BadM f q) := fun q hq => by
          by_cases e : q = pc
          · subst e; intro h; have := (unhide HB).2 h; cases this
          · exact unhide hQ q (by omega)
        go_wp2_with fail
        go_roundg (gk - 1)
        case measure => have := unhide hpc; omega
        case rel => exact ⟨pc + 1, by have := unhide hpc; unfold Hid; omega, by go_num, HQ2, HF4⟩
    · have c1 : ¬ (pc : Int) < (NC : Int) := by omega
      have HQA : Hid (∀ q, ¬ BadM f q) := bad_all (fun q hq => unhide hQ q (by rw [unhide hNC] at hq; omega))
      have G0 : Hid (Gn W2 [] (.slice none 0 0) wr) := ⟨Ro.nil _ _, unhide hF, fun k hk => by simp [Value.ownBlock] at hk⟩
      have H0 : Hid (HsI f 0 []) := ⟨rfl, fun q hq => absurd hq (Nat.not_lt_zero q), fun q ht hq => absurd hq (Nat.not_lt_zero q)⟩
      have HW2 : Hid (w.heap.size ≤ W2.heap.size) := by have := (unhide F2).size; simp at this; unfold Hid; omega
      clear hQ hpc
      go_wp2_with fail
      clear y0 y1 y2 y3 y4 yl HYB2
      go_loopg [7, 8] NC (fun gg t7 t8 wr => ∃ (pc : Nat) (l : List Int), Hid (pc + gg = NC) ∧ t8 = .int .i64 (pc : Int) ∧ Hid (HsI f pc l) ∧ Hid (Gn W2 l t7 wr))
      case atStart => exact ⟨0, [], by unfold Hid; omega, rfl, H0, G0⟩
      case round =>
        clear hF G0 H0
        obtain ⟨pc, l, hpc, rfl, hH, hG⟩ := hrel
        obtain ⟨y0, y1, y2, y3, y4, yb, yl⟩ := box5 (unhide HSB _ (unhide hG).2.1)
        have HYB2 := hide yb
        clear yb
        by_cases hlt : pc < NC
        · have c1 : (pc : Int) < (NC : Int) := by omega
          have c2 : pc < 2000 := by have := unhide HNm; omega
          have c0 : (0 : Int) ≤ (pc : Int) := by omega
          obtain ⟨⟨op, a⟩, hi⟩ : ∃ q, f.code[pc]? = some q := ⟨_, List.getElem?_eq_getElem (by rw [unhide hNC]; exact hlt)⟩
          have HIC := hide hi
          obtain ⟨cb', co', cc', ecv', _, _, lc, hc⟩ := unhide HCode pc op a hi
          obtain ⟨rfl, rfl⟩ : cb = cb' ∧ co = co' := by
            injection ecv' with q _ _
            injection q with q
            injection q with q1 q2 _
            exact ⟨q1, q2⟩
          have k0 := ((unhide HYB2).cell (p := ⟨cb, co + pc * 2 + 0, none⟩) lc).trans (hc 0 _ rfl)
          rw [Nat.add_zero] at k0
          have lcr : cb < wr.heap.size := Nat.lt_of_lt_of_le lc (unhide HYB2).size
          have HH := hide (unhide HHt wr g pc L (unhide HTB _ (unhide hG).2.1) (unhide HM) hlt)
          have n1 : IntKind.i64.wrap ((NC : Int) - 1) = (NC : Int) - 1 := by rw [IntKind.wrap_i64]; have := unhide HNm; omega
          have HEn := hide (fun w => dEnds_any w op)
          obtain ⟨en, hen⟩ : ∃ b, Hid (enB op = b) := ⟨_, rfl⟩
          rw [unhide hen] at HEn
          have hHl : Hid (l.length = pc) := (unhide hH).len
          have hll : l.length < 2000 := by rw [unhide hHl]; exact c2
          obtain ⟨va, vc, ev, _, _⟩ := (unhide hG).1.shape
          subst ev
          clear hi hc ecv' lc
          go_wp2_with fail
          refine (unhide HH).mono ?_
          rintro e w4 ⟨z, rfl, hz, rfl⟩
          clear HH
          rcases hz with ⟨rfl, hno⟩ | ⟨z0, z1, hm⟩
          · have HR : Hid (FnR f none (pc : Int) 10) := .inr (.inl ⟨rfl, rfl, unhide HQA, pc, rfl, ⟨op, a, unhide HIC, .inl hno⟩, (unhide hH).un⟩)
            by_cases hls : (pc : Int) = (NC : Int) - 1
            · have e1 : ((pc : Int) == (NC : Int) - 1) = true := by simpa using hls
              clear hls hno
              go_wp2_with fail
              go_ret3
              exact ⟨_, none, _, _, rfl, unhide HR, fun _ => rfl, fun l hl => (by cases hl), unhide HYB2⟩
            · have e1 : ((pc : Int) == (NC : Int) - 1) = false := by simpa using hls
              clear hls hno
              go_wp2_with fail
              go_ret3
              exact ⟨_, none, _, _, rfl, unhide HR, fun _ => rfl, fun l hl => (by cases hl), unhide HYB2⟩
          · have HMz := hide hm
            have z2 : ¬ z < 0 := by omega
            clear hm
            by_cases hls : (pc : Int) = (NC : Int) - 1
            · have e1 : ((pc : Int) == (NC : Int) - 1) = true := by simpa using hls
              have hlast : Hid (pc + 1 = f.code.length) := by unfold Hid; rw [unhide hNC]; omega
              clear hls
              cases en with
              | false =>
                have HR : Hid (FnR f none (pc : Int) 10) := .inr (.inl ⟨rfl, rfl, unhide HQA, pc, rfl, ⟨op, a, unhide HIC, .inr ⟨unhide hlast, unhide hen⟩⟩, (unhide hH).un⟩)
                go_wp2_with fail
                refine (unhide HEn _).mono ?_
                rintro e w5 ⟨rfl, rfl⟩
                go_wp2_with fail
                go_ret3
                exact ⟨_, none, _, _, rfl, unhide HR, fun _ => rfl, fun l hl => (by cases hl), unhide HYB2⟩
              | true =>
                have HH2 := hide ((unhide hH).push (unhide HQA) (unhide HIC) (unhide HMz) (fun _ => unhide hen))
                go_wp2_with fail
                refine (unhide HEn _).mono ?_
                rintro e w5 ⟨rfl, rfl⟩
                go_wp2_with (first | (at_builtin; refine wpList_appN rfl _ _ rfl (.slice va l.length vc) l rfl ((unhide hG).1.keep (fun g hg => Below.heap_alloc _ _ _ ((unhide hG).1.lt g hg))) ⟨w5.heap.size, 0, none⟩ 1 z rfl (new_cells w5 #[.int .i64 z] 3) (by omega) ?_; intro v6 w6 hr6 hg6 hat6; have G2 := hide ((unhide hG).push (p := z) hr6 rfl hg6 hat6); clear hr6 hg6 hat6))
                go_roundg (gk - 1)
                case measure => have := unhide hpc; omega
                case rel => exact ⟨pc + 1, _, by have := unhide hpc; unfold Hid; omega, by go_num, HH2, G2⟩
            · have e1 : ((pc : Int) == (NC : Int) - 1) = false := by simpa using hls
              have HH2 := hide ((unhide hH).push (unhide HQA) (unhide HIC) (unhide HMz) (fun q => absurd q (by rw [unhide hNC]; omega)))
              clear hls
              go_wp2_with (first | (at_builtin; refine wpList_appN rfl _ _ rfl (.slice va l.length vc) l rfl ((unhide hG).1.keep (fun g hg => Below.heap_alloc _ _ _ ((unhide hG).1.lt g hg))) ⟨w4.heap.size, 0, none⟩ 1 z rfl (new_cells w4 #[.int .i64 z] 3) (by omega) ?_; intro v6 w6 hr6 hg6 hat6; have G2 := hide ((unhide hG).push (p := z) hr6 rfl hg6 hat6); clear hr6 hg6 hat6))
              go_roundg (gk - 1)
              case measure => have := unhide hpc; omega
              case rel => exact ⟨pc + 1, _, by have := unhide hpc; unfold Hid; omega, by go_num, HH2, G2⟩
        · have c1 : ¬ (pc : Int) < (NC : Int) := by omega
          have hpn : pc = f.code.length := by rw [unhide hNC]; have := unhide hpc; omega
          have HR : Hid (FnR f (some l) 0 0) := by have q := unhide hH; rw [hpn] at q; exact q.all (unhide HOF) (unhide HQA)
          clear hpn
          obtain ⟨va, vc, ev, _, _⟩ := (unhide hG).1.shape
          subst ev
          have HO : Hid (∀ k, (Value.slice va l.length vc).ownBlock = some k → w.heap.size ≤ k) := fun k hk => Nat.le_trans (unhide HW2) ((unhide hG).2.2 k hk)
          go_wp2_with fail
          go_ret3
          exact ⟨_, some l, _, _, rfl, unhide HR, fun h => (by cases h), fun l' hl' => (by cases hl'; exact ⟨(unhide hG).1, unhide HO⟩), unhide HYB2⟩
end Go.Proofs.YtbkfnmkfbdoadaaGreatDoor
