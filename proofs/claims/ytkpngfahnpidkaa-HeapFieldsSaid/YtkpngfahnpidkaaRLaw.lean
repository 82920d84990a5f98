/-
  HeapFields: the law's walk.
-/
import Derived.Test.YtkpngfahnpidkaaRState
import Derived.Test.YtkpngfahnpidkaaPAsk
namespace Go.Proofs.Ytkpngfahnpidkaa
open Go.RowKit
set_option linter.unusedVariables false
set_option linter.unusedSimpArgs false

theorem bool_neqQ (b c : Bool) (w : World) : (binOp .neq 4 (.bool b) (.bool c)).run Try.prog w = .ok (.bool (b != c)) w := by cases b <;> cases c <;> kernel_rfl
theorem bool_eqlQ (b c : Bool) (w : World) : (binOp .eql 4 (.bool b) (.bool c)).run Try.prog w = .ok (.bool (b == c)) w := by cases b <;> cases c <;> kernel_rfl
theorem pick3 (w : World) (z : Int) : Calls Try.prog 11 #[.int .i64 z, .int .i64 3] w fun e w' => e = .returned (.int .i64 ((pick z 3 : Nat) : Int)) ∧ w' = w := pick_any w z 3 (by omega) (by omega)
theorem pickQ (w : World) (z : Int) : Calls Try.prog 11 #[.int .i64 z, .int .i64 1048576] w fun e w' => e = .returned (.int .i64 ((pick z 1048576 : Nat) : Int)) ∧ w' = w := pick_any w z 1048576 (by omega) (by omega)
theorem step_ex {w : World} {ops : Array Oper} {o : Oper} {a : Act} {K : Act → World → Prop} {Q : Exit → Act → World → Prop} {E : Prop} (hgd : o.guard = none) (s x : Operand) (t : TypeId)
    (ho : o.op = .call { callee := .builtin .append, args := #[s, x], argTypes := #[t, t] }) {vs vx : Value} (hs : a.eval s = vs) (hx : a.eval x = vx) {R : Value → World → Prop} (hr : ∀ ty, ∃ v w1, (Builtin.append_ #[t, t] ty #[vs, vx]).run Try.prog w = .ok v w1 ∧ R v w1)
    (h : ∀ v w1, R v w1 → K (a.put o.dst v) w1) :
    if Region.wanted o (yielded ops a.tmps) = true then Oper.wp Try.prog o a w K Q else E := by
  rw [if_pos (by simp [Region.wanted, hgd])]
  obtain ⟨v, w1, hrun, hR⟩ := hr o.type
  unfold Oper.wp
  simp [execOp, ho, resolve, invoke, builtin, hs, hx, hrun, Result.andThen]
  exact h v w1 hR
theorem at_hit {ks : List Int} {key : Int} {k : Nat} (hd : ks.Nodup) (h : ks[k]? = some key) : fxI (ks.take (k + 1)) key = (k : Int) := by
  have hk := (List.getElem?_eq_some_iff.1 h).1
  have : fx (ks.take (k + 1)) key = some k := by
    refine fx_nodup (hd.sublist (List.take_sublist _ _)) ?_
    rw [List.getElem?_take, if_pos (by omega)]
    exact h
  unfold fxI
  rw [this]
theorem fx_append {ks : List Int} {x key : Int} (h : x ≠ key) : fx (ks ++ [x]) key = fx ks key := by
  induction ks with
  | nil => simp [fx, h]
  | cons r rs ih => simp only [List.cons_append, fx, ih]
theorem at_miss {ks : List Int} {key x : Int} {k : Nat} (h : ks[k]? = some x) (hx : x ≠ key) : fxI (ks.take (k + 1)) key = fxI (ks.take k) key := by
  unfold fxI
  rw [List.take_add_one, h]
  show (match fx (ks.take k ++ [x]) key with | some i => (i : Int) | none => -1) = _
  rw [fx_append hx]
  rfl
section
variable {w : World} {hb cb : Nat} {bud sp : Int} {ks : List Int} {vs : List (Int × Int)} {kv vv ov : Value} {o : OD} {wr w' : World}
theorem FQ.are (J : FQ w hb cb bud sp ks vs kv vv ov o wr) (key : Int) : Calls Try.prog 22 #[.pointer (some ⟨hb, 0, none⟩), .agg #[.int .i64 7, .int .i64 0], kv, vv, .int .i64 key] wr fun e w' => e = .returned (.bool true) ∧ Below wr.heap.size wr w' :=
  fieldsAre_any J.hp rfl J.ok (by rw [J.ok2, J.ok1]; exact J.len) (by rw [J.ok1]; exact J.nd) (by rw [J.ok1]; exact J.many) (by rw [J.ok1]; exact J.kr) (by rw [J.ok2]; exact J.vr) key
end
theorem fq_start {w w2 w3 : World} {m : Nat} {o : OD} {ov : Value} (hb1 : Below w.heap.size w w2) (hfs : ∀ k, Fts w.heap.size ov [] k → w.heap.size ≤ k) (hk : o.k = 7) (h1 : o.its = []) (h2 : o.keys = []) (N : Now w2 w.heap.size ((m : Int) + 2) 0 ov [] w3 (0 + 2) ([] ++ [o])) :
    ∃ ov', FQ w w.heap.size w3.heap.size ((m : Int) + 2) ((m : Int) + 2 - (m : Int)) [] [] (.slice none 0 0) (.slice none 0 0) ov' o (w3.alloc (.cells #[.int .i64 7, .int .i64 0] 33)) := by
  obtain ⟨ov', H, f, hF⟩ := N
  rw [show (0 + 2 : Int) = (m : Int) + 2 - (m : Int) by omega] at H
  have hB : Below w3.heap.size w3 (w3.alloc (.cells #[.int .i64 7, .int .i64 0] 33)) := (Below.refl _ _).alloc (Nat.le_refl _) _
  have hs1 := hb1.size
  have hs2 := f.size
  refine ⟨ov', H.below hB, hk, h2, h1, List.nodup_nil, rfl, by simp, Ro.nil _ _, Ro.nil _ _, Bx.new _ _ _ _, by omega, fun k hk => ?_, fun k hk => by simp [Value.ownBlock] at hk, fun k hk => by simp [Value.ownBlock] at hk, (hb1.trans (f.below hs1 (fun k hk e => by have := hfs k e; omega))).trans (hB.mono (by omega)), by omega⟩
  have hlt := H.lt k hk
  refine ⟨?_, by omega, by simp [Value.ownBlock], by simp [Value.ownBlock]⟩
  rcases hF k hk with q | q
  · exact hfs k q
  · omega
set_option maxRecDepth 100000 in
set_option maxHeartbeats 25600000 in
theorem fieldsLaw (w : World) (budget : Int) (v : Value) (ps : List OpD) (hR : RdO w v ps) (hN : ps.length ≤ 4611686018427387904) : Calls Try.prog 5 #[.int .i64 budget, v] w fun e w' => e = .returned (.bool true) ∧ Below w.heap.size w w' := by
  obtain ⟨sa, scap, rfl, hcells⟩ := hR
  obtain ⟨L, hL⟩ : ∃ L, Hid (ps.length = L) := ⟨_, rfl⟩
  have HC := hide hcells
  rw [unhide hL] at hN ⊢
  have HP := hide (pickQ w budget)
  have hm := pick_lt budget (n := 1048576) (by omega)
  obtain ⟨m, em⟩ : ∃ m, pick budget 1048576 = m := ⟨_, rfl⟩
  rw [em] at HP hm
  have HNEW := hide (new_any w ((m : Int) + 2) 0)
  clear hcells em
  have bn := bool_neqQ
  have be := bool_eqlQ
  go_enter Try.func5, Try.ntmps5
  go_wp2_with fail
  refine (unhide HP).mono ?_
  rintro e1 w1 ⟨rfl, rfl⟩
  go_wp2_with fail
  refine (unhide HNEW).mono ?_
  rintro e2 w2 ⟨rfl, H1, hb1⟩
  rw [show max ((m : Int) + 2) 0 = (m : Int) + 2 by omega, show max (0 : Int) 0 = 0 from rfl] at H1
  have hfs : ∀ k, Fts w1.heap.size (.slice none 0 0) [] k → w1.heap.size ≤ k := fun k hk => by
    rcases hk.cases with e | e | ⟨i, o, ho, _⟩
    · omega
    · simp [Value.ownBlock] at e
    · simp at ho
  have HREC := hide (record_ok H1 (by omega) (by omega) (by omega) (by simp))
  have HS := hide (fun (w3 : World) (o : OD) (h1 : o.k = 7) (h2 : o.its = []) (h3 : o.keys = []) (N : Now w2 w1.heap.size ((m : Int) + 2) 0 (.slice none 0 0) [] w3 (0 + 2) ([] ++ [o])) => fq_start hb1 hfs h1 h2 h3 N)
  have hlt := H1.hlt
  clear H1 hb1 hfs
  go_wp2_with fail
  refine (unhide HREC).mono ?_
  rintro e3 w3 ⟨rfl, o0, ho1, ho2, ho3, N⟩
  obtain ⟨ov0, J0⟩ := unhide HS w3 o0 ho1 ho2 ho3 N
  have HJ0 := hide J0
  clear N J0 HS HREC
  go_wp2_with fail
  go_loopg [5, 9, 10, 11] L (fun g t5 t9 t10 t11 wr => ∃ (i : Nat) (left : Int) (ks : List Int) (vs : List (Int × Int)) (kv vv ov : Value) (o : OD), Hid (i + g = L) ∧ t5 = .int .i64 left ∧ t9 = kv ∧ t10 = vv ∧ t11 = .int .i64 (i : Int) ∧ Hid (FQ w1 w1.heap.size w3.heap.size ((m : Int) + 2) ((m : Int) + 2 - left) ks vs kv vv ov o wr))
  case atStart => exact ⟨0, (m : Int), [], [], _, _, ov0, o0, by unfold Hid; omega, rfl, rfl, rfl, rfl, HJ0⟩
  case round =>
    obtain ⟨i, left, ks, vs, kv, vv, ov, o, hi, rfl, rfl, rfl, rfl, hJ⟩ := hrel
    by_cases hlt' : i < L
    · obtain ⟨sb, so, rfl, hsb, hop⟩ := unhide HC i (by rw [unhide hL]; exact hlt')
      have hop2 := hop.below ((unhide hJ).bel) hsb
      obtain ⟨_, p1, _, _, p4, p5, p6, _⟩ := hop2
      obtain ⟨_, pw1, _, _, pw4, pw5, pw6, _⟩ := hop
      obtain ⟨ka, kc, rfl, hkl, hkm⟩ := (unhide hJ).kr.shape
      obtain ⟨va, vc, rfl, hvl, hvm⟩ := (unhide hJ).vr.shape
      have HKR := hide (fun i p (hp : ks[i]? = some p) => (unhide hJ).kr.key hp)
      have hsw := Nat.lt_of_lt_of_le hsb (unhide hJ).bel.size
      have i0 : (0 : Int) ≤ (i : Int) := by omega
      have i1 : (i : Int) < (L : Int) := by omega
      have hrng := (unhide hJ).rng
      generalize ps.getD i OpD.zero = p at *
      obtain ⟨key, ekey⟩ : ∃ key, p.i = key := ⟨_, rfl⟩
      rw [ekey] at p6 pw6
      have hk3 := pick_lt p.call (n := 3) (by omega)
      have HP3 := pick3 wr p.call
      obtain ⟨pk, epk⟩ : ∃ pk, pick p.call 3 = pk := ⟨_, rfl⟩
      rw [epk] at HP3 hk3
      have HP3 := hide HP3
      have hcb := (unhide hJ).cbx.lt
      have hhr := (unhide hJ).hp.hlt
      obtain ⟨c0, c1⟩ := (unhide hJ).cbx
      unfold maxLen at hkm hvm
      clear epk ekey
      go_wp2_with fail
      go_loopg [13, 14] ks.length (fun g t13 t14 w' => ∃ (k : Nat), Hid (k + g = ks.length) ∧ t13 = .int .i64 (fxI (ks.take k) key) ∧ t14 = .int .i64 (k : Int) ∧ w' = wr)
      case atStart => exact ⟨0, by unfold Hid; omega, rfl, rfl, rfl⟩
      case round =>
        obtain ⟨k, hk, rfl, rfl, rfl⟩ := hrel
        by_cases hkl2 : k < ks.length
        · obtain ⟨x, hx⟩ : ∃ x, ks[k]? = some x := ⟨_, List.getElem?_eq_getElem hkl2⟩
          obtain ⟨kg, koff, kc', eke, _, _, hkg, kcell⟩ := unhide HKR k x hx
          cases eke
          have k0 : (0 : Int) ≤ (k : Int) := by omega
          have k1 : (k : Int) < (ks.length : Int) := by omega
          by_cases hq : x = key
          · subst hq
            have hat := at_hit (unhide hJ).nd hx
            have HAT := hide hat
            clear hat hx
            go_wp2_with fail
            go_roundg (gk - 1)
            case measure => have := unhide hk; omega
            case rel => exact ⟨k + 1, by have := unhide hk; unfold Hid; omega, by rw [unhide HAT], by go_num, rfl⟩
          · have hat := at_miss hx hq
            have HAT := hide hat
            have d1 : (x == key) = false := by simp [hq]
            have d2 : decide (x = key) = false := decide_eq_false hq
            clear hat hx
            go_wp2_with fail
            go_roundg (gk - 1)
            case measure => have := unhide hk; omega
            case rel => exact ⟨k + 1, by have := unhide hk; unfold Hid; omega, by rw [unhide HAT], by go_num, rfl⟩
        · have hkE : k = ks.length := by have := unhide hk; omega
          subst hkE
          rw [List.take_of_length_le (Nat.le_refl _)]
          go_wp2_with fail
          refine (unhide HP3).mono ?_
          rintro e4 w4 ⟨rfl, rfl⟩
          cases hfx : fx ks key with
          | none =>
            have eI : fxI ks key = -1 := by unfold fxI; rw [hfx]
            rw [eI]
            by_cases hpk : pk = 0
            · subst hpk
              clear eI
              have hfn : fx o.keys key = none := by rw [(unhide hJ).ok1]; exact hfx
              have HD := hide (del_none (unhide hJ).hp 7 0 (unhide hJ).nm (unhide hJ).ok key hfn)
              go_wp2_with fail
              refine (unhide HD).mono ?_
              rintro e5 w5 ⟨rfl, hb5⟩
              have hJ5 := hide ((unhide hJ).below hb5)
              clear hb5 hfn c0 c1
              have HZ := hide ((unhide hJ5).are key)
              obtain ⟨c05, c15⟩ := (unhide hJ5).cbx
              have hc5 := (unhide hJ5).cbx.lt
              have hh5 := (unhide hJ5).hp.hlt
              go_wp2_with fail
              refine (unhide HZ).mono ?_
              rintro e9 w9 ⟨rfl, hb9⟩
              have hJ9 := hide ((unhide hJ5).below hb9)
              clear hb9
              go_wp2_with fail
              go_roundg (L - (i + 1))
              case measure => have := unhide hi; omega
              case rel => exact ⟨i + 1, left, ks, vs, _, _, _, _, by have := unhide hi; unfold Hid; omega, by go_num, by simp, by simp, by go_num, hJ9⟩
            · have d3 : ((pk : Int) == 0) = false := by simp; omega
              have d4 : decide ((pk : Int) = 0) = false := decide_eq_false (by omega)
              have d5 : ¬ (pk = 0) := hpk
              clear eI
              by_cases hbig : 256 ≤ ks.length
              · have hfn : fx o.keys key = none := by rw [(unhide hJ).ok1]; exact hfx
                have hJd := (unhide hJ).below ((Below.refl _ w4).drew)
                have hfull : 256 ≤ o.keys.length := by rw [(unhide hJ).ok1]; exact hbig
                have HS := hide (setf_full hJd.hp (by omega) (by have := hJd.rng; omega) 7 0 hJd.nm hJd.ok key p.xk p.xn hfn hfull)
                have d6 : decide ((ks.length : Int) ≥ 256) = true := decide_eq_true (by omega)
                clear hJd hfn hfull
                have hS : w4.cell? ⟨w3.heap.size, 0, none⟩ = some (.int .i64 7) ∧ w4.cell? ⟨w3.heap.size, 1, none⟩ = some (.int .i64 0) ∧ w4.cell? ⟨sb, so + i * 9 + 4, none⟩ = some (.int .i64 p.xk) ∧ w4.cell? ⟨sb, so + i * 9 + 5, none⟩ = some (.int .i64 p.xn) := ⟨c0, c1, p4, p5⟩
                have HFR : Hid (∀ w', Fr (fun _ => False) w4 w' → w'.cell? ⟨w3.heap.size, 0, none⟩ = some (.int .i64 7) ∧ w'.cell? ⟨w3.heap.size, 1, none⟩ = some (.int .i64 0) ∧ w'.cell? ⟨sb, so + i * 9 + 4, none⟩ = some (.int .i64 p.xk) ∧ w'.cell? ⟨sb, so + i * 9 + 5, none⟩ = some (.int .i64 p.xn)) := fun w' f => ⟨(f.cell (a := ⟨w3.heap.size, 0, none⟩) hcb (fun e => e)).trans c0, (f.cell (a := ⟨w3.heap.size, 1, none⟩) hcb (fun e => e)).trans c1, (f.cell (a := ⟨sb, so + i * 9 + 4, none⟩) hsw (fun e => e)).trans p4, (f.cell (a := ⟨sb, so + i * 9 + 5, none⟩) hsw (fun e => e)).trans p5⟩
                go_wp2_with fail
                refine wp_region_held_drew (S := (fun wx => wx.cell? ⟨w3.heap.size, 0, none⟩ = some (.int .i64 7) ∧ wx.cell? ⟨w3.heap.size, 1, none⟩ = some (.int .i64 0) ∧ wx.cell? ⟨sb, so + i * 9 + 4, none⟩ = some (.int .i64 p.xk) ∧ wx.cell? ⟨sb, so + i * 9 + 5, none⟩ = some (.int .i64 p.xn))) (by kernel_rfl) hS (fun hHeld => ?_)
                refine wpAnyH_take (i := 0) (oi := _) (v := .pointer (some ⟨w1.heap.size, 0, none⟩)) rfl (by kernel_rfl) (by kernel_rfl) (by kernel_rfl) (fun _ _ _ h => h) (Or.inl ⟨by rfl, (by intro w hSw; go_simp)⟩) (by assumption) ?_
                refine wpAnyH_take (i := 1) (oi := _) (v := .agg #[.int .i64 7, .int .i64 0]) rfl (by kernel_rfl) (by kernel_rfl) (by kernel_rfl) (fun _ _ _ h => h) (Or.inl ⟨by rfl, (by intro w hSw; obtain ⟨hs1, hs2, hs3, hs4⟩ := hSw; go_simp)⟩) (by assumption) ?_
                refine wpAnyH_take (i := 2) (oi := _) (v := .int .i64 key) rfl (by kernel_rfl) (by kernel_rfl) (by kernel_rfl) (fun _ _ _ h => h) (Or.inl ⟨by rfl, (by intro w hSw; go_simp)⟩) (by assumption) ?_
                go_simp
                refine wpAnyH_take (i := 3) (oi := _) (v := .slice (some ⟨sb, so, none⟩) L scap) rfl (by kernel_rfl) (by kernel_rfl) (by kernel_rfl) (fun _ _ _ h => h) (Or.inl ⟨by rfl, (by intro w hSw; go_simp)⟩) (by assumption) ?_
                refine wpAnyH_take (i := 4) (oi := _) (v := .int .i64 (i : Int)) rfl (by kernel_rfl) (by kernel_rfl) (by kernel_rfl) (fun _ _ _ h => h) (Or.inl ⟨by rfl, (by intro w hSw; go_simp)⟩) (by assumption) ?_
                refine wpAnyH_take (i := 5) (oi := _) (v := .pointer (some ⟨sb, so + i * 9, none⟩)) rfl (by kernel_rfl) (by kernel_rfl) (by kernel_rfl) (fun _ _ _ h => h) (Or.inl ⟨by rfl, (by intro w hSw; go_simp)⟩) (by assumption) ?_
                go_simp
                refine wpAnyH_take (i := 6) (oi := _) (v := .pointer (some ⟨sb, so + i * 9 + 4, none⟩)) rfl (by kernel_rfl) (by kernel_rfl) (by kernel_rfl) (fun _ _ _ h => h) (Or.inl ⟨by rfl, (by intro w hSw; go_simp)⟩) (by assumption) ?_
                refine wpAnyH_take (i := 7) (oi := _) (v := .agg #[.int .i64 p.xk, .int .i64 p.xn]) rfl (by kernel_rfl) (by kernel_rfl) (by kernel_rfl) (fun _ _ _ h => h) (Or.inl ⟨by rfl, (by intro w hSw; obtain ⟨hs1, hs2, hs3, hs4⟩ := hSw; go_simp)⟩) (by assumption) ?_
                go_simp
                refine wpAnyH_ready (rs := [8]) (by kernel_rfl) (by simp) ?_
                refine AllReadyH.cons (o := _) rfl (fun K hK => ?_) AllReadyH.nil
                go_simp
                refine (unhide HS).mono ?_
                rintro e5 w5 ⟨rfl, hb5⟩
                have b5w : Below w4.heap.size w4 w5 := ((Below.refl _ w4).drew).trans hb5
                have hJ5 := hide ((unhide hJ).below b5w)
                have HS5 : Hid (w5.cell? ⟨w3.heap.size, 0, none⟩ = some (.int .i64 7) ∧ w5.cell? ⟨w3.heap.size, 1, none⟩ = some (.int .i64 0) ∧ w5.cell? ⟨sb, so + i * 9 + 4, none⟩ = some (.int .i64 p.xk) ∧ w5.cell? ⟨sb, so + i * 9 + 5, none⟩ = some (.int .i64 p.xn)) := unhide HFR w5 (Fr.of_below b5w)
                go_simp
                refine hK.out _ _ (unhide HS5) (fun _ => ?_)
                clear hK K
                refine wpAnyH_take (i := 9) (oi := _) (v := .tuple #[.int .i64 8, .bool true]) rfl (by kernel_rfl) (by kernel_rfl) (by kernel_rfl) (fun _ _ _ h => h) (Or.inl ⟨by rfl, (by intro w hSw; go_simp)⟩) (by assumption) ?_
                refine wpAnyH_take (i := 10) (oi := _) (v := .int .i64 8) rfl (by kernel_rfl) (by kernel_rfl) (by kernel_rfl) (fun _ _ _ h => h) (Or.inl ⟨by rfl, (by intro w hSw; go_simp)⟩) (by assumption) ?_
                refine wpAnyH_take (i := 11) (oi := _) (v := .bool true) rfl (by kernel_rfl) (by kernel_rfl) (by kernel_rfl) (fun _ _ _ h => h) (Or.inl ⟨by rfl, (by intro w hSw; go_simp)⟩) (by assumption) ?_
                go_simp
                refine wpAnyH_ready (rs := [12]) (by kernel_rfl) (by simp) ?_
                refine AllReadyH.cons (o := _) rfl (fun K hK => ?_) AllReadyH.nil
                go_simp
                refine hK.out _ _ (unhide HS5) (fun _ => ?_)
                clear hK K
                refine wpAnyH_ready (rs := [13]) (by kernel_rfl) (by simp) ?_
                refine AllReadyH.cons (o := _) rfl (fun K hK => ?_) AllReadyH.nil
                go_simp
                refine hK.out _ _ (unhide HS5) (fun _ => ?_)
                clear hK K
                refine wpAnyH_done (by kernel_rfl) ?_ _
                clear hHeld hS
                clear b5w hb5 c0 c1 p4 p5
                have HZ := hide ((unhide hJ5).are key)
                obtain ⟨c05, c15⟩ := (unhide hJ5).cbx
                have hc5 := (unhide hJ5).cbx.lt
                have hh5 := (unhide hJ5).hp.hlt
                go_wp2_with fail
                refine (unhide HZ).mono ?_
                rintro e9 w9 ⟨rfl, hb9⟩
                have hJ9 := hide ((unhide hJ5).below hb9)
                clear hb9
                go_wp2_with fail
                go_roundg (L - (i + 1))
                case measure => have := unhide hi; omega
                case rel => exact ⟨i + 1, left, ks, vs, _, _, _, _, by have := unhide hi; unfold Hid; omega, by go_num, by simp, by simp, by go_num, hJ9⟩
              · by_cases hpoor : left < 2
                · have hfn : fx o.keys key = none := by rw [(unhide hJ).ok1]; exact hfx
                  have hJd := (unhide hJ).below ((Below.refl _ w4).drew)
                  have hfull : o.keys.length < 256 := by rw [(unhide hJ).ok1]; omega
                  have HS := hide (setf_no hJd.hp (by omega) (by have := hJd.rng; omega) 7 0 hJd.nm hJd.ok key p.xk p.xn hfn hfull (by omega))
                  have d6 : decide ((ks.length : Int) ≥ 256) = false := decide_eq_false (by omega)
                  have d7 : decide (left < 2) = true := decide_eq_true (by omega)
                  clear hJd hfn hfull
                  have hS : w4.cell? ⟨w3.heap.size, 0, none⟩ = some (.int .i64 7) ∧ w4.cell? ⟨w3.heap.size, 1, none⟩ = some (.int .i64 0) ∧ w4.cell? ⟨sb, so + i * 9 + 4, none⟩ = some (.int .i64 p.xk) ∧ w4.cell? ⟨sb, so + i * 9 + 5, none⟩ = some (.int .i64 p.xn) := ⟨c0, c1, p4, p5⟩
                  have HFR : Hid (∀ w', Fr (fun _ => False) w4 w' → w'.cell? ⟨w3.heap.size, 0, none⟩ = some (.int .i64 7) ∧ w'.cell? ⟨w3.heap.size, 1, none⟩ = some (.int .i64 0) ∧ w'.cell? ⟨sb, so + i * 9 + 4, none⟩ = some (.int .i64 p.xk) ∧ w'.cell? ⟨sb, so + i * 9 + 5, none⟩ = some (.int .i64 p.xn)) := fun w' f => ⟨(f.cell (a := ⟨w3.heap.size, 0, none⟩) hcb (fun e => e)).trans c0, (f.cell (a := ⟨w3.heap.size, 1, none⟩) hcb (fun e => e)).trans c1, (f.cell (a := ⟨sb, so + i * 9 + 4, none⟩) hsw (fun e => e)).trans p4, (f.cell (a := ⟨sb, so + i * 9 + 5, none⟩) hsw (fun e => e)).trans p5⟩
                  go_wp2_with fail
                  refine wp_region_held_drew (S := (fun wx => wx.cell? ⟨w3.heap.size, 0, none⟩ = some (.int .i64 7) ∧ wx.cell? ⟨w3.heap.size, 1, none⟩ = some (.int .i64 0) ∧ wx.cell? ⟨sb, so + i * 9 + 4, none⟩ = some (.int .i64 p.xk) ∧ wx.cell? ⟨sb, so + i * 9 + 5, none⟩ = some (.int .i64 p.xn))) (by kernel_rfl) hS (fun hHeld => ?_)
                  refine wpAnyH_take (i := 0) (oi := _) (v := .pointer (some ⟨w1.heap.size, 0, none⟩)) rfl (by kernel_rfl) (by kernel_rfl) (by kernel_rfl) (fun _ _ _ h => h) (Or.inl ⟨by rfl, (by intro w hSw; go_simp)⟩) (by assumption) ?_
                  refine wpAnyH_take (i := 1) (oi := _) (v := .agg #[.int .i64 7, .int .i64 0]) rfl (by kernel_rfl) (by kernel_rfl) (by kernel_rfl) (fun _ _ _ h => h) (Or.inl ⟨by rfl, (by intro w hSw; obtain ⟨hs1, hs2, hs3, hs4⟩ := hSw; go_simp)⟩) (by assumption) ?_
                  refine wpAnyH_take (i := 2) (oi := _) (v := .int .i64 key) rfl (by kernel_rfl) (by kernel_rfl) (by kernel_rfl) (fun _ _ _ h => h) (Or.inl ⟨by rfl, (by intro w hSw; go_simp)⟩) (by assumption) ?_
                  go_simp
                  refine wpAnyH_take (i := 3) (oi := _) (v := .slice (some ⟨sb, so, none⟩) L scap) rfl (by kernel_rfl) (by kernel_rfl) (by kernel_rfl) (fun _ _ _ h => h) (Or.inl ⟨by rfl, (by intro w hSw; go_simp)⟩) (by assumption) ?_
                  refine wpAnyH_take (i := 4) (oi := _) (v := .int .i64 (i : Int)) rfl (by kernel_rfl) (by kernel_rfl) (by kernel_rfl) (fun _ _ _ h => h) (Or.inl ⟨by rfl, (by intro w hSw; go_simp)⟩) (by assumption) ?_
                  refine wpAnyH_take (i := 5) (oi := _) (v := .pointer (some ⟨sb, so + i * 9, none⟩)) rfl (by kernel_rfl) (by kernel_rfl) (by kernel_rfl) (fun _ _ _ h => h) (Or.inl ⟨by rfl, (by intro w hSw; go_simp)⟩) (by assumption) ?_
                  go_simp
                  refine wpAnyH_take (i := 6) (oi := _) (v := .pointer (some ⟨sb, so + i * 9 + 4, none⟩)) rfl (by kernel_rfl) (by kernel_rfl) (by kernel_rfl) (fun _ _ _ h => h) (Or.inl ⟨by rfl, (by intro w hSw; go_simp)⟩) (by assumption) ?_
                  refine wpAnyH_take (i := 7) (oi := _) (v := .agg #[.int .i64 p.xk, .int .i64 p.xn]) rfl (by kernel_rfl) (by kernel_rfl) (by kernel_rfl) (fun _ _ _ h => h) (Or.inl ⟨by rfl, (by intro w hSw; obtain ⟨hs1, hs2, hs3, hs4⟩ := hSw; go_simp)⟩) (by assumption) ?_
                  go_simp
                  refine wpAnyH_ready (rs := [8]) (by kernel_rfl) (by simp) ?_
                  refine AllReadyH.cons (o := _) rfl (fun K hK => ?_) AllReadyH.nil
                  go_simp
                  refine (unhide HS).mono ?_
                  rintro e5 w5 ⟨rfl, hb5⟩
                  have b5w : Below w4.heap.size w4 w5 := ((Below.refl _ w4).drew).trans hb5
                  have hJ5 := hide ((unhide hJ).below b5w)
                  have HS5 : Hid (w5.cell? ⟨w3.heap.size, 0, none⟩ = some (.int .i64 7) ∧ w5.cell? ⟨w3.heap.size, 1, none⟩ = some (.int .i64 0) ∧ w5.cell? ⟨sb, so + i * 9 + 4, none⟩ = some (.int .i64 p.xk) ∧ w5.cell? ⟨sb, so + i * 9 + 5, none⟩ = some (.int .i64 p.xn)) := unhide HFR w5 (Fr.of_below b5w)
                  go_simp
                  refine hK.out _ _ (unhide HS5) (fun _ => ?_)
                  clear hK K
                  refine wpAnyH_take (i := 9) (oi := _) (v := .tuple #[.int .i64 0, .bool false]) rfl (by kernel_rfl) (by kernel_rfl) (by kernel_rfl) (fun _ _ _ h => h) (Or.inl ⟨by rfl, (by intro w hSw; go_simp)⟩) (by assumption) ?_
                  refine wpAnyH_take (i := 10) (oi := _) (v := .int .i64 0) rfl (by kernel_rfl) (by kernel_rfl) (by kernel_rfl) (fun _ _ _ h => h) (Or.inl ⟨by rfl, (by intro w hSw; go_simp)⟩) (by assumption) ?_
                  refine wpAnyH_take (i := 11) (oi := _) (v := .bool false) rfl (by kernel_rfl) (by kernel_rfl) (by kernel_rfl) (fun _ _ _ h => h) (Or.inl ⟨by rfl, (by intro w hSw; go_simp)⟩) (by assumption) ?_
                  go_simp
                  refine wpAnyH_ready (rs := [12]) (by kernel_rfl) (by simp) ?_
                  refine AllReadyH.cons (o := _) rfl (fun K hK => ?_) AllReadyH.nil
                  go_simp
                  refine hK.out _ _ (unhide HS5) (fun _ => ?_)
                  clear hK K
                  refine wpAnyH_ready (rs := [13]) (by kernel_rfl) (by simp) ?_
                  refine AllReadyH.cons (o := _) rfl (fun K hK => ?_) AllReadyH.nil
                  go_simp
                  refine hK.out _ _ (unhide HS5) (fun _ => ?_)
                  clear hK K
                  refine wpAnyH_done (by kernel_rfl) ?_ _
                  clear hHeld hS
                  clear b5w hb5 c0 c1 p4 p5
                  have HZ := hide ((unhide hJ5).are key)
                  obtain ⟨c05, c15⟩ := (unhide hJ5).cbx
                  have hc5 := (unhide hJ5).cbx.lt
                  have hh5 := (unhide hJ5).hp.hlt
                  go_wp2_with fail
                  refine (unhide HZ).mono ?_
                  rintro e9 w9 ⟨rfl, hb9⟩
                  have hJ9 := hide ((unhide hJ5).below hb9)
                  clear hb9
                  go_wp2_with fail
                  go_roundg (L - (i + 1))
                  case measure => have := unhide hi; omega
                  case rel => exact ⟨i + 1, left, ks, vs, _, _, _, _, by have := unhide hi; unfold Hid; omega, by go_num, by simp, by simp, by go_num, hJ9⟩
                · have hfn : fx o.keys key = none := by rw [(unhide hJ).ok1]; exact hfx
                  have hJd := (unhide hJ).below ((Below.refl _ w4).drew)
                  have hfull : o.keys.length < 256 := by rw [(unhide hJ).ok1]; omega
                  have HS := hide (setf_ok hJd.hp (by omega) (by have := hJd.rng; omega) 7 0 hJd.nm hJd.ok key p.xk p.xn hfn hfull (by rw [hJd.ok2, hJd.ok1]; exact hJd.len) (by omega))
                  have d6 : decide ((ks.length : Int) ≥ 256) = false := decide_eq_false (by omega)
                  have d7 : decide (left < 2) = false := decide_eq_false (by omega)
                  have HFA := hide (And.intro (unhide hJ).nd (And.intro (unhide hJ).len (And.intro (unhide hJ).many (unhide hJ).rng)))
                  have hvb : vs.length ≤ 8000000000000 := by rw [(unhide hJ).len]; omega
                  clear hJd hfn hfull
                  have hS : w4.cell? ⟨w3.heap.size, 0, none⟩ = some (.int .i64 7) ∧ w4.cell? ⟨w3.heap.size, 1, none⟩ = some (.int .i64 0) ∧ w4.cell? ⟨sb, so + i * 9 + 4, none⟩ = some (.int .i64 p.xk) ∧ w4.cell? ⟨sb, so + i * 9 + 5, none⟩ = some (.int .i64 p.xn) := ⟨c0, c1, p4, p5⟩
                  have HFR : Hid (∀ w', Fr (fun _ => False) w4 w' → w'.cell? ⟨w3.heap.size, 0, none⟩ = some (.int .i64 7) ∧ w'.cell? ⟨w3.heap.size, 1, none⟩ = some (.int .i64 0) ∧ w'.cell? ⟨sb, so + i * 9 + 4, none⟩ = some (.int .i64 p.xk) ∧ w'.cell? ⟨sb, so + i * 9 + 5, none⟩ = some (.int .i64 p.xn)) := fun w' f => ⟨(f.cell (a := ⟨w3.heap.size, 0, none⟩) hcb (fun e => e)).trans c0, (f.cell (a := ⟨w3.heap.size, 1, none⟩) hcb (fun e => e)).trans c1, (f.cell (a := ⟨sb, so + i * 9 + 4, none⟩) hsw (fun e => e)).trans p4, (f.cell (a := ⟨sb, so + i * 9 + 5, none⟩) hsw (fun e => e)).trans p5⟩
                  go_wp2_with fail
                  refine wp_region_held_drew (S := (fun wx => wx.cell? ⟨w3.heap.size, 0, none⟩ = some (.int .i64 7) ∧ wx.cell? ⟨w3.heap.size, 1, none⟩ = some (.int .i64 0) ∧ wx.cell? ⟨sb, so + i * 9 + 4, none⟩ = some (.int .i64 p.xk) ∧ wx.cell? ⟨sb, so + i * 9 + 5, none⟩ = some (.int .i64 p.xn))) (by kernel_rfl) hS (fun hHeld => ?_)
                  refine wpAnyH_take (i := 0) (oi := _) (v := .pointer (some ⟨w1.heap.size, 0, none⟩)) rfl (by kernel_rfl) (by kernel_rfl) (by kernel_rfl) (fun _ _ _ h => h) (Or.inl ⟨by rfl, (by intro w hSw; go_simp)⟩) (by assumption) ?_
                  refine wpAnyH_take (i := 1) (oi := _) (v := .agg #[.int .i64 7, .int .i64 0]) rfl (by kernel_rfl) (by kernel_rfl) (by kernel_rfl) (fun _ _ _ h => h) (Or.inl ⟨by rfl, (by intro w hSw; obtain ⟨hs1, hs2, hs3, hs4⟩ := hSw; go_simp)⟩) (by assumption) ?_
                  refine wpAnyH_take (i := 2) (oi := _) (v := .int .i64 key) rfl (by kernel_rfl) (by kernel_rfl) (by kernel_rfl) (fun _ _ _ h => h) (Or.inl ⟨by rfl, (by intro w hSw; go_simp)⟩) (by assumption) ?_
                  go_simp
                  refine wpAnyH_take (i := 3) (oi := _) (v := .slice (some ⟨sb, so, none⟩) L scap) rfl (by kernel_rfl) (by kernel_rfl) (by kernel_rfl) (fun _ _ _ h => h) (Or.inl ⟨by rfl, (by intro w hSw; go_simp)⟩) (by assumption) ?_
                  refine wpAnyH_take (i := 4) (oi := _) (v := .int .i64 (i : Int)) rfl (by kernel_rfl) (by kernel_rfl) (by kernel_rfl) (fun _ _ _ h => h) (Or.inl ⟨by rfl, (by intro w hSw; go_simp)⟩) (by assumption) ?_
                  refine wpAnyH_take (i := 5) (oi := _) (v := .pointer (some ⟨sb, so + i * 9, none⟩)) rfl (by kernel_rfl) (by kernel_rfl) (by kernel_rfl) (fun _ _ _ h => h) (Or.inl ⟨by rfl, (by intro w hSw; go_simp)⟩) (by assumption) ?_
                  go_simp
                  refine wpAnyH_take (i := 6) (oi := _) (v := .pointer (some ⟨sb, so + i * 9 + 4, none⟩)) rfl (by kernel_rfl) (by kernel_rfl) (by kernel_rfl) (fun _ _ _ h => h) (Or.inl ⟨by rfl, (by intro w hSw; go_simp)⟩) (by assumption) ?_
                  refine wpAnyH_take (i := 7) (oi := _) (v := .agg #[.int .i64 p.xk, .int .i64 p.xn]) rfl (by kernel_rfl) (by kernel_rfl) (by kernel_rfl) (fun _ _ _ h => h) (Or.inl ⟨by rfl, (by intro w hSw; obtain ⟨hs1, hs2, hs3, hs4⟩ := hSw; go_simp)⟩) (by assumption) ?_
                  go_simp
                  refine wpAnyH_ready (rs := [8]) (by kernel_rfl) (by simp) ?_
                  refine AllReadyH.cons (o := _) rfl (fun K hK => ?_) AllReadyH.nil
                  go_simp
                  refine (unhide HS).mono ?_
                  rintro e5 w5 ⟨rfl, v51, v52, N5⟩
                  obtain ⟨ov5, M5⟩ := ((unhide hJ).below ((Below.refl _ w4).drew)).mid.now (o' := { o with kv := v51, keys := o.keys ++ [key], iv := v52, its := o.its ++ [(p.xk, p.xn)] }) N5 (unhide hJ).ok (ks1' := (ks ++ [key])) (vs1' := (vs ++ [(p.xk, p.xn)])) (by show o.keys ++ _ = _; rw [(unhide hJ).ok1]) (by show o.its ++ _ = _; rw [(unhide hJ).ok2])
                  have HM5 := hide M5
                  have p45 := (M5.bel.cell (p := ⟨sb, so + i * 9 + 4, none⟩) hsb).trans pw4
                  have p55 := (M5.bel.cell (p := ⟨sb, so + i * 9 + 5, none⟩) hsb).trans pw5
                  have HS5 : Hid (w5.cell? ⟨w3.heap.size, 0, none⟩ = some (.int .i64 7) ∧ w5.cell? ⟨w3.heap.size, 1, none⟩ = some (.int .i64 0) ∧ w5.cell? ⟨sb, so + i * 9 + 4, none⟩ = some (.int .i64 p.xk) ∧ w5.cell? ⟨sb, so + i * 9 + 5, none⟩ = some (.int .i64 p.xn)) := ⟨M5.cbx.1, M5.cbx.2, p45, p55⟩
                  go_simp
                  refine hK.out _ _ (unhide HS5) (fun _ => ?_)
                  clear hK K
                  refine wpAnyH_take (i := 9) (oi := _) (v := .tuple #[.int .i64 0, .bool true]) rfl (by kernel_rfl) (by kernel_rfl) (by kernel_rfl) (fun _ _ _ h => h) (Or.inl ⟨by rfl, (by intro w hSw; go_simp)⟩) (by assumption) ?_
                  refine wpAnyH_take (i := 10) (oi := _) (v := .int .i64 0) rfl (by kernel_rfl) (by kernel_rfl) (by kernel_rfl) (fun _ _ _ h => h) (Or.inl ⟨by rfl, (by intro w hSw; go_simp)⟩) (by assumption) ?_
                  refine wpAnyH_take (i := 11) (oi := _) (v := .bool true) rfl (by kernel_rfl) (by kernel_rfl) (by kernel_rfl) (fun _ _ _ h => h) (Or.inl ⟨by rfl, (by intro w hSw; go_simp)⟩) (by assumption) ?_
                  go_simp
                  refine wpAnyH_ready (rs := [12]) (by kernel_rfl) (by simp) ?_
                  refine AllReadyH.cons (o := _) rfl (fun K hK => ?_) AllReadyH.nil
                  go_simp
                  refine hK.out _ _ (unhide HS5) (fun _ => ?_)
                  clear hK K
                  refine wpAnyH_ready (rs := [13]) (by kernel_rfl) (by simp) ?_
                  refine AllReadyH.cons (o := _) rfl (fun K hK => ?_) AllReadyH.nil
                  go_simp
                  refine hK.out _ _ (unhide HS5) (fun _ => ?_)
                  clear hK K
                  refine wpAnyH_done (by kernel_rfl) ?_ _
                  clear hHeld hS
                  have HRK := hide M5.kr
                  have hs5 : sb < w5.heap.size := World.block_lt_of_cell? _ _ p45
                  clear N5 M5 c0 c1 p4 p5
                  go_wp2_with (first | (at_builtin; refine wpList_appK rfl _ _ rfl (.slice ka ks.length kc) ks rfl ((unhide HRK).keep (fun g hg => Below.heap_alloc _ _ _ ((unhide HRK).lt g hg))) ⟨w5.heap.size, 0, none⟩ 1 key rfl (one_new _ _ _) (by omega) ?_))
                  intro v6 w6 hr6 hg6 hat6
                  obtain ⟨ka6, kc6, rfl, _⟩ := hr6.shape
                  have M6 := (unhide HM5).keys (ks2' := ks ++ [key]) (((Fr.refl _ w5).alloc _).grown hg6 (fun k e => .inr e)) (by rw [List.length_append]; exact hr6) (by
                    rcases hat6 with q | q
                    · exact .inl q
                    · right; intro k hk; rw [q] at hk; cases hk; first | simp | omega)
                  have HM6 := hide M6
                  have p46 := (M6.bel.cell (p := ⟨sb, so + i * 9 + 4, none⟩) hsb).trans pw4
                  have p56 := (M6.bel.cell (p := ⟨sb, so + i * 9 + 5, none⟩) hsb).trans pw5
                  have hs6 : sb < w6.heap.size := World.block_lt_of_cell? _ _ p46
                  have HRV := hide M6.vr
                  clear hr6 hg6 hat6 M6
                  go_wp2_with (first | (at_builtin; refine wpList_appV rfl _ _ rfl (.slice va vs.length vc) vs rfl ((unhide HRV).keep (fun g hg => Below.heap_alloc _ _ _ ((unhide HRV).lt g hg))) ⟨w6.heap.size, 0, none⟩ 1 p.xk p.xn rfl (two_new' _ _ _ _) (by omega) ?_))
                  intro v7 w7 hr7 hg7 hat7
                  obtain ⟨va7, vc7, rfl, _⟩ := hr7.shape
                  have M7 := (unhide HM6).vals (vs2' := vs ++ [(p.xk, p.xn)]) (((Fr.refl _ w6).alloc _).grown hg7 (fun k e => .inr e)) (by rw [List.length_append]; exact hr7) (by
                    rcases hat7 with q | q
                    · exact .inl q
                    · right; intro k hk; rw [q] at hk; cases hk; first | simp | omega)
                  rw [show (m : Int) + 2 - left + 2 = (m : Int) + 2 - (left - 2) by omega] at M7
                  have hJ7 := hide (M7.full (by
                      rw [List.nodup_append]
                      exact ⟨(unhide HFA).1, by simp, fun a ha b hb => by simp at hb; subst hb; exact fun q => fx_none.1 hfx (q ▸ ha)⟩) (by simp; exact (unhide HFA).2.1) (by simp; omega) (by have := (unhide HFA).2.2.2; omega))
                  clear hr7 hg7 hat7 M7 HRV HRK
                  have HZ := hide ((unhide hJ7).are key)
                  obtain ⟨c05, c15⟩ := (unhide hJ7).cbx
                  have hc5 := (unhide hJ7).cbx.lt
                  have hh5 := (unhide hJ7).hp.hlt
                  go_wp2_with fail
                  refine (unhide HZ).mono ?_
                  rintro e9 w9 ⟨rfl, hb9⟩
                  have hJ9 := hide ((unhide hJ7).below hb9)
                  clear hb9
                  go_wp2_with fail
                  go_roundg (L - (i + 1))
                  case measure => have := unhide hi; omega
                  case rel => exact ⟨i + 1, (left - 2), (ks ++ [key]), (vs ++ [(p.xk, p.xn)]), _, _, _, _, by have := unhide hi; unfold Hid; omega, by go_num, by simp, by simp, by go_num, hJ9⟩
          | some j =>
            have eI : fxI ks key = (j : Int) := by unfold fxI; rw [hfx]
            rw [eI]
            by_cases hpk : pk = 0
            · subst hpk
              clear eI
              have hfs : fx o.keys key = some j := by rw [(unhide hJ).ok1]; exact hfx
              have hjl := fx_lt hfx
              have HD := hide (del_some (unhide hJ).hp 7 0 (unhide hJ).nm (unhide hJ).ok key hfs (by rw [(unhide hJ).ok2, (unhide hJ).ok1]; exact (unhide hJ).len))
              obtain ⟨mm, emm⟩ : ∃ mm, ks.length = mm + 1 := ⟨ks.length - 1, by omega⟩
              have evm : vs.length = mm + 1 := by rw [(unhide hJ).len, emm]
              have HL1 := hide emm
              have HL2 := hide evm
              have hkr := (unhide hJ).kr
              have hvr := (unhide hJ).vr
              rw [emm] at hkr ⊢
              rw [evm] at hvr ⊢
              obtain ⟨g1, of1, cp1, ek, hc1, hm1, hgl1, _⟩ := hkr.full (by omega)
              obtain ⟨g2, of2, cp2, ev, hc2, hm2, hgl2, _⟩ := hvr.full (by omega)
              cases ek
              cases ev
              have many := (unhide hJ).many
              rw [emm] at many
              have nd := hide (unhide hJ).nd
              have HRNG := hide (unhide hJ).rng
              unfold maxLen at hm1 hm2
              have hjm : j ≤ mm := by omega
              have j0 : (0 : Int) ≤ (j : Int) := by omega
              have j1 : (j : Int) ≤ (mm : Int) := by omega
              have d0 : decide ((j : Int) ≥ 0) = true := decide_eq_true (by omega)
              have n1 : j ≤ kc := by omega
              have n2 : ¬ kc < j := by omega
              have n3 : j ≤ vc := by omega
              have n4 : ¬ vc < j := by omega
              have j2 : (mm : Int) + 1 ≤ (kc : Int) := by omega
              have j3 : (mm : Int) + 1 ≤ (vc : Int) := by omega
              have j4 : (0 : Int) ≤ (j : Int) + 1 := by omega
              have j5 : (kc : Int) ≤ 9223372036854775807 := by omega
              have j6 : (vc : Int) ≤ 9223372036854775807 := by omega
              have hwr : IntKind.i64.wrap ((j : Int) + 1) = (j : Int) + 1 := by go_arith
              have HC1 : Hid (mm + 1 ≤ kc) := hc1
              have HC2 : Hid (mm + 1 ≤ vc) := hc2
              clear hkr hvr emm evm hfs hjl
              go_wp2_with fail
              refine (unhide HD).mono ?_
              rintro e5 w5 ⟨rfl, v51, v52, N5⟩
              obtain ⟨ov5, M5⟩ := (unhide hJ).mid.now (o' := { o with kv := v51, keys := o.keys.eraseIdx j, iv := v52, its := o.its.eraseIdx j }) N5 (unhide hJ).ok (ks1' := ks.eraseIdx j) (vs1' := vs.eraseIdx j) (by show o.keys.eraseIdx j = _; rw [(unhide hJ).ok1]) (by show o.its.eraseIdx j = _; rw [(unhide hJ).ok2])
              have HM5 := hide M5
              have HR1 : Hid (Ro w5 1 (.slice (some ⟨g1, of1, none⟩) (mm + 1) kc) (mm + 1) (kcells ks)) := by have := M5.kr; rw [unhide HL1] at this; exact this
              clear N5 M5 c0 c1
              have HOUT1 : Hid (∀ ty, ∃ v w1, (Builtin.append_ #[49, 49] ty #[.slice (some ⟨g1, of1, none⟩) j j, .slice (if kc = j + 1 then (some ⟨g1, of1, none⟩ : Option Addr) else some ⟨g1, of1 + (j + 1), none⟩) (mm - j) (kc - (j + 1))]).run Try.prog w5.drew = .ok v w1 ∧ (Ro w1 1 v mm (kcells (ks.eraseIdx j)) ∧ w5.drew.grownBy w1 (some g1) ∧ (v.ownBlock = some g1 ∨ v.ownBlock = some w5.drew.heap.size))) := fun ty => by
                obtain ⟨i0, hi0, hz0, hz1, hz2⟩ := info_parts Try.info2
                have hro : Ro w5.drew 1 (.slice (some ⟨g1, of1, none⟩) (mm + 1) kc) (mm + 1) (kcells ks) := (unhide HR1).keep (fun _ _ => rfl)
                obtain ⟨v', w', q1, q2, q3, q4⟩ := hro.out (P := Try.prog) 49 ty 2 i0 _ 8 Try.underlying49 hi0 hz0 hz1 hz2 rfl (by decide) (by omega) (ones_k _) (if kc = j + 1 then ⟨g1, of1, none⟩ else ⟨g1, of1 + (j + 1), none⟩) (by
                  by_cases hc : kc = j + 1
                  · right; have := unhide HC1; omega
                  · left; rw [if_neg hc]; simp) (kc - (j + 1)) (by unfold maxLen; omega) (by omega)
                rw [kwo _ _ (by rw [unhide HL1]; omega)] at q2
                refine ⟨v', w', ?_, q2, q3, q4⟩
                rw [← q1]
                by_cases hc : kc = j + 1
                · rw [if_pos hc, if_pos hc]
                · rw [if_neg hc, if_neg hc]
              go_wp2_with fail
              refine wp_region_held_drew (S := fun _ => True) (by kernel_rfl) trivial (fun hHeld => ?_)
              refine wpAnyH_take (i := 0) (oi := _) (v := .slice (some ⟨g1, of1, none⟩) (mm + 1) kc) rfl (by kernel_rfl) (by kernel_rfl) (by kernel_rfl) (fun _ _ _ h => h) (Or.inl ⟨by rfl, (by intro w hSw; go_simp)⟩) (by assumption) ?_
              refine wpAnyH_take (i := 1) (oi := _) (v := .int .i64 (j : Int)) rfl (by kernel_rfl) (by kernel_rfl) (by kernel_rfl) (fun _ _ _ h => h) (Or.inl ⟨by rfl, (by intro w hSw; go_simp)⟩) (by assumption) ?_
              refine wpAnyH_take (i := 2) (oi := _) (v := .int .i64 (j : Int)) rfl (by kernel_rfl) (by kernel_rfl) (by kernel_rfl) (fun _ _ _ h => h) (Or.inl ⟨by rfl, (by intro w hSw; go_simp)⟩) (by assumption) ?_
              go_simp
              refine wpAnyH_take (i := 3) (oi := _) (v := .slice (some ⟨g1, of1, none⟩) j j) rfl (by kernel_rfl) (by kernel_rfl) (by kernel_rfl) (fun _ _ _ h => h) (Or.inl ⟨by rfl, (by intro w hSw; go_simp)⟩) (by assumption) ?_
              refine wpAnyH_take (i := 4) (oi := _) (v := .slice (some ⟨g1, of1, none⟩) (mm + 1) kc) rfl (by kernel_rfl) (by kernel_rfl) (by kernel_rfl) (fun _ _ _ h => h) (Or.inl ⟨by rfl, (by intro w hSw; go_simp)⟩) (by assumption) ?_
              refine wpAnyH_take (i := 5) (oi := _) (v := .int .i64 (j : Int)) rfl (by kernel_rfl) (by kernel_rfl) (by kernel_rfl) (fun _ _ _ h => h) (Or.inl ⟨by rfl, (by intro w hSw; go_simp)⟩) (by assumption) ?_
              go_simp
              refine wpAnyH_take (i := 6) (oi := _) (v := .int .i64 ((j : Int) + 1)) rfl (by kernel_rfl) (by kernel_rfl) (by kernel_rfl) (fun _ _ _ h => h) (Or.inl ⟨by rfl, (by intro w hSw; go_simp)⟩) (by assumption) ?_
              refine wpAnyH_take (i := 7) (oi := _) (v := .slice (if kc = j + 1 then (some ⟨g1, of1, none⟩ : Option Addr) else some ⟨g1, of1 + (j + 1), none⟩) (mm - j) (kc - (j + 1))) rfl (by kernel_rfl) (by kernel_rfl) (by kernel_rfl) (fun _ _ _ h => h) (Or.inl ⟨by rfl, (by intro w hSw; go_simp)⟩) (by assumption) ?_
              go_simp
              refine wpAnyH_ready (rs := [8]) (by kernel_rfl) (by simp) ?_
              refine AllReadyH.cons (o := _) rfl (fun K hK => ?_) AllReadyH.nil
              refine step_ex rfl _ _ 49 rfl rfl rfl (unhide HOUT1) ?_
              rintro v6 w6 ⟨r6, gr6, at6⟩
              obtain ⟨xa6, xc6, rfl, _⟩ := r6.shape
              have f6 : Fr (fun k => (.slice (some ⟨g1, of1, none⟩) (mm + 1) kc : Value).ownBlock = some k) w5 w6 := ((Fr.refl _ w5).drew).grown gr6 (fun k e => .inr (by rw [← e]; rfl))
              have HM6 := hide ((unhide HM5).keys (ks2' := ks.eraseIdx j) f6 (by rw [show (ks.eraseIdx j).length = mm by rw [List.length_eraseIdx_of_lt (by rw [unhide HL1]; omega), unhide HL1]; rfl]; exact r6) (by
                rcases at6 with q | q
                · exact .inl q
                · right; intro k hk; rw [q] at hk; cases hk; exact Nat.le_refl _))
              clear r6 gr6 at6 f6
              refine hK.out _ _ trivial (fun hHeld2 => ?_)
              clear hK K
              go_simp
              refine wpAnyH_ready (rs := [9]) (by kernel_rfl) (by simp) ?_
              refine AllReadyH.cons (o := _) rfl (fun K hK => ?_) AllReadyH.nil
              go_simp
              refine hK.out _ _ trivial (fun hHeld3 => ?_)
              clear hK K
              refine wpAnyH_done (by kernel_rfl) ?_ _
              clear hHeld hHeld2 hHeld3 HOUT1
              generalize (if kc = j + 1 then (some ⟨g1, of1, none⟩ : Option Addr) else some ⟨g1, of1 + (j + 1), none⟩) = AD6
              have HR2 : Hid (Ro w6 2 (.slice (some ⟨g2, of2, none⟩) (mm + 1) vc) (mm + 1) (flat vs)) := by have := (unhide HM6).vr; rw [unhide HL2] at this; exact this
              have HOUT2 : Hid (∀ ty, ∃ v w1, (Builtin.append_ #[36, 36] ty #[.slice (some ⟨g2, of2, none⟩) j j, .slice (if vc = j + 1 then (some ⟨g2, of2, none⟩ : Option Addr) else some ⟨g2, of2 + (j + 1) * 2, none⟩) (mm - j) (vc - (j + 1))]).run Try.prog w6.drew = .ok v w1 ∧ (Ro w1 2 v mm (flat (vs.eraseIdx j)) ∧ w6.drew.grownBy w1 (some g2) ∧ (v.ownBlock = some g2 ∨ v.ownBlock = some w6.drew.heap.size))) := fun ty => by
                obtain ⟨i0, hi0, hz0, hz1, hz2⟩ := info_parts Try.info33
                have hro : Ro w6.drew 2 (.slice (some ⟨g2, of2, none⟩) (mm + 1) vc) (mm + 1) (flat vs) := (unhide HR2).keep (fun _ _ => rfl)
                obtain ⟨v', w', q1, q2, q3, q4⟩ := hro.out (P := Try.prog) 36 ty 33 i0 _ 16 Try.underlying36 hi0 hz0 hz1 hz2 rfl (by decide) (by omega) (ones_flat _) (if vc = j + 1 then ⟨g2, of2, none⟩ else ⟨g2, of2 + (j + 1) * 2, none⟩) (by
                  by_cases hc : vc = j + 1
                  · right; have := unhide HC2; omega
                  · left; rw [if_neg hc]) (vc - (j + 1)) (by unfold maxLen; omega) (by omega)
                rw [fwo _ _ (by rw [unhide HL2]; omega)] at q2
                refine ⟨v', w', ?_, q2, q3, q4⟩
                rw [← q1]
                by_cases hc : vc = j + 1
                · rw [if_pos hc, if_pos hc]
                · rw [if_neg hc, if_neg hc]
              go_wp2_with fail
              refine wp_region_held_drew (S := fun _ => True) (by kernel_rfl) trivial (fun hHeld => ?_)
              refine wpAnyH_take (i := 0) (oi := _) (v := .slice (some ⟨g2, of2, none⟩) (mm + 1) vc) rfl (by kernel_rfl) (by kernel_rfl) (by kernel_rfl) (fun _ _ _ h => h) (Or.inl ⟨by rfl, (by intro w hSw; go_simp)⟩) (by assumption) ?_
              refine wpAnyH_take (i := 1) (oi := _) (v := .int .i64 (j : Int)) rfl (by kernel_rfl) (by kernel_rfl) (by kernel_rfl) (fun _ _ _ h => h) (Or.inl ⟨by rfl, (by intro w hSw; go_simp)⟩) (by assumption) ?_
              refine wpAnyH_take (i := 2) (oi := _) (v := .int .i64 (j : Int)) rfl (by kernel_rfl) (by kernel_rfl) (by kernel_rfl) (fun _ _ _ h => h) (Or.inl ⟨by rfl, (by intro w hSw; go_simp)⟩) (by assumption) ?_
              go_simp
              refine wpAnyH_take (i := 3) (oi := _) (v := .slice (some ⟨g2, of2, none⟩) j j) rfl (by kernel_rfl) (by kernel_rfl) (by kernel_rfl) (fun _ _ _ h => h) (Or.inl ⟨by rfl, (by intro w hSw; go_simp)⟩) (by assumption) ?_
              refine wpAnyH_take (i := 4) (oi := _) (v := .slice (some ⟨g2, of2, none⟩) (mm + 1) vc) rfl (by kernel_rfl) (by kernel_rfl) (by kernel_rfl) (fun _ _ _ h => h) (Or.inl ⟨by rfl, (by intro w hSw; go_simp)⟩) (by assumption) ?_
              refine wpAnyH_take (i := 5) (oi := _) (v := .int .i64 (j : Int)) rfl (by kernel_rfl) (by kernel_rfl) (by kernel_rfl) (fun _ _ _ h => h) (Or.inl ⟨by rfl, (by intro w hSw; go_simp)⟩) (by assumption) ?_
              go_simp
              refine wpAnyH_take (i := 6) (oi := _) (v := .int .i64 ((j : Int) + 1)) rfl (by kernel_rfl) (by kernel_rfl) (by kernel_rfl) (fun _ _ _ h => h) (Or.inl ⟨by rfl, (by intro w hSw; go_simp)⟩) (by assumption) ?_
              refine wpAnyH_take (i := 7) (oi := _) (v := .slice (if vc = j + 1 then (some ⟨g2, of2, none⟩ : Option Addr) else some ⟨g2, of2 + (j + 1) * 2, none⟩) (mm - j) (vc - (j + 1))) rfl (by kernel_rfl) (by kernel_rfl) (by kernel_rfl) (fun _ _ _ h => h) (Or.inl ⟨by rfl, (by intro w hSw; go_simp)⟩) (by assumption) ?_
              go_simp
              refine wpAnyH_ready (rs := [8]) (by kernel_rfl) (by simp) ?_
              refine AllReadyH.cons (o := _) rfl (fun K hK => ?_) AllReadyH.nil
              refine step_ex rfl _ _ 36 rfl rfl rfl (unhide HOUT2) ?_
              rintro v7 w7 ⟨r7, gr7, at7⟩
              obtain ⟨xa7, xc7, rfl, _⟩ := r7.shape
              have f7 : Fr (fun k => (.slice (some ⟨g2, of2, none⟩) (mm + 1) vc : Value).ownBlock = some k) w6 w7 := ((Fr.refl _ w6).drew).grown gr7 (fun k e => .inr (by rw [← e]; rfl))
              have HM7 := hide ((unhide HM6).vals (vs2' := vs.eraseIdx j) f7 (by rw [show (vs.eraseIdx j).length = mm by rw [List.length_eraseIdx_of_lt (by rw [unhide HL2]; omega), unhide HL2]; rfl]; exact r7) (by
                rcases at7 with q | q
                · exact .inl q
                · right; intro k hk; rw [q] at hk; cases hk; exact Nat.le_refl _))
              clear r7 gr7 at7 f7
              refine hK.out _ _ trivial (fun hHeld2 => ?_)
              clear hK K
              go_simp
              refine wpAnyH_ready (rs := [9]) (by kernel_rfl) (by simp) ?_
              refine AllReadyH.cons (o := _) rfl (fun K hK => ?_) AllReadyH.nil
              go_simp
              refine hK.out _ _ trivial (fun hHeld3 => ?_)
              clear hK K
              refine wpAnyH_done (by kernel_rfl) ?_ _
              clear hHeld hHeld2 hHeld3 HOUT2
              generalize (if vc = j + 1 then (some ⟨g2, of2, none⟩ : Option Addr) else some ⟨g2, of2 + (j + 1) * 2, none⟩) = AD7
              have e1 : (ks.eraseIdx j).length = mm := by rw [List.length_eraseIdx_of_lt (by rw [unhide HL1]; omega), unhide HL1]; rfl
              have e2 : (vs.eraseIdx j).length = mm := by rw [List.length_eraseIdx_of_lt (by rw [unhide HL2]; omega), unhide HL2]; rfl
              have hJ7 := hide ((unhide HM7).full ((unhide nd).sublist (List.eraseIdx_sublist _ _)) (by rw [e1, e2]) (by rw [e1]; omega) (unhide HRNG))
              clear e1 e2
              have HZ := hide ((unhide hJ7).are key)
              obtain ⟨c05, c15⟩ := (unhide hJ7).cbx
              have hc5 := (unhide hJ7).cbx.lt
              have hh5 := (unhide hJ7).hp.hlt
              go_wp2_with fail
              refine (unhide HZ).mono ?_
              rintro e9 w9 ⟨rfl, hb9⟩
              have hJ9 := hide ((unhide hJ7).below hb9)
              clear hb9
              go_wp2_with fail
              go_roundg (L - (i + 1))
              case measure => have := unhide hi; omega
              case rel => exact ⟨i + 1, left, (ks.eraseIdx j), (vs.eraseIdx j), _, _, _, _, by have := unhide hi; unfold Hid; omega, by go_num, by simp, by simp, by go_num, hJ9⟩
            · have d3 : ((pk : Int) == 0) = false := by simp; omega
              have d4 : decide ((pk : Int) = 0) = false := decide_eq_false (by omega)
              have d5 : ¬ (pk = 0) := hpk
              clear eI
              have hfs : fx o.keys key = some j := by rw [(unhide hJ).ok1]; exact hfx
              have hjl := fx_lt hfx
              have hJd := (unhide hJ).below ((Below.refl _ w4).drew)
              have HS := hide (setf_found hJd.hp (by omega) (by have := hJd.rng; omega) 7 0 hJd.nm hJd.ok key p.xk p.xn hfs (by rw [hJd.ok2, hJd.ok1]; exact hJd.len))
              have hjv : j < vs.length := by rw [(unhide hJ).len]; exact hjl
              have d0 : decide ((j : Int) ≥ 0) = true := decide_eq_true (by omega)
              have d1 : decide ((j : Int) < 0) = false := decide_eq_false (by omega)
              have j0 : (0 : Int) ≤ (j : Int) := by omega
              have j1 : (j : Int) < (vs.length : Int) := by omega
              have HFA := hide (And.intro (unhide hJ).nd (And.intro (unhide hJ).len (And.intro (unhide hJ).many (unhide hJ).rng)))
              clear hJd hfs
              have hS : w4.cell? ⟨w3.heap.size, 0, none⟩ = some (.int .i64 7) ∧ w4.cell? ⟨w3.heap.size, 1, none⟩ = some (.int .i64 0) ∧ w4.cell? ⟨sb, so + i * 9 + 4, none⟩ = some (.int .i64 p.xk) ∧ w4.cell? ⟨sb, so + i * 9 + 5, none⟩ = some (.int .i64 p.xn) := ⟨c0, c1, p4, p5⟩
              have HFR : Hid (∀ w', Fr (fun _ => False) w4 w' → w'.cell? ⟨w3.heap.size, 0, none⟩ = some (.int .i64 7) ∧ w'.cell? ⟨w3.heap.size, 1, none⟩ = some (.int .i64 0) ∧ w'.cell? ⟨sb, so + i * 9 + 4, none⟩ = some (.int .i64 p.xk) ∧ w'.cell? ⟨sb, so + i * 9 + 5, none⟩ = some (.int .i64 p.xn)) := fun w' f => ⟨(f.cell (a := ⟨w3.heap.size, 0, none⟩) hcb (fun e => e)).trans c0, (f.cell (a := ⟨w3.heap.size, 1, none⟩) hcb (fun e => e)).trans c1, (f.cell (a := ⟨sb, so + i * 9 + 4, none⟩) hsw (fun e => e)).trans p4, (f.cell (a := ⟨sb, so + i * 9 + 5, none⟩) hsw (fun e => e)).trans p5⟩
              go_wp2_with fail
              refine wp_region_held_drew (S := (fun wx => wx.cell? ⟨w3.heap.size, 0, none⟩ = some (.int .i64 7) ∧ wx.cell? ⟨w3.heap.size, 1, none⟩ = some (.int .i64 0) ∧ wx.cell? ⟨sb, so + i * 9 + 4, none⟩ = some (.int .i64 p.xk) ∧ wx.cell? ⟨sb, so + i * 9 + 5, none⟩ = some (.int .i64 p.xn))) (by kernel_rfl) hS (fun hHeld => ?_)
              refine wpAnyH_take (i := 0) (oi := _) (v := .pointer (some ⟨w1.heap.size, 0, none⟩)) rfl (by kernel_rfl) (by kernel_rfl) (by kernel_rfl) (fun _ _ _ h => h) (Or.inl ⟨by rfl, (by intro w hSw; go_simp)⟩) (by assumption) ?_
              refine wpAnyH_take (i := 1) (oi := _) (v := .agg #[.int .i64 7, .int .i64 0]) rfl (by kernel_rfl) (by kernel_rfl) (by kernel_rfl) (fun _ _ _ h => h) (Or.inl ⟨by rfl, (by intro w hSw; obtain ⟨hs1, hs2, hs3, hs4⟩ := hSw; go_simp)⟩) (by assumption) ?_
              refine wpAnyH_take (i := 2) (oi := _) (v := .int .i64 key) rfl (by kernel_rfl) (by kernel_rfl) (by kernel_rfl) (fun _ _ _ h => h) (Or.inl ⟨by rfl, (by intro w hSw; go_simp)⟩) (by assumption) ?_
              go_simp
              refine wpAnyH_take (i := 3) (oi := _) (v := .slice (some ⟨sb, so, none⟩) L scap) rfl (by kernel_rfl) (by kernel_rfl) (by kernel_rfl) (fun _ _ _ h => h) (Or.inl ⟨by rfl, (by intro w hSw; go_simp)⟩) (by assumption) ?_
              refine wpAnyH_take (i := 4) (oi := _) (v := .int .i64 (i : Int)) rfl (by kernel_rfl) (by kernel_rfl) (by kernel_rfl) (fun _ _ _ h => h) (Or.inl ⟨by rfl, (by intro w hSw; go_simp)⟩) (by assumption) ?_
              refine wpAnyH_take (i := 5) (oi := _) (v := .pointer (some ⟨sb, so + i * 9, none⟩)) rfl (by kernel_rfl) (by kernel_rfl) (by kernel_rfl) (fun _ _ _ h => h) (Or.inl ⟨by rfl, (by intro w hSw; go_simp)⟩) (by assumption) ?_
              go_simp
              refine wpAnyH_take (i := 6) (oi := _) (v := .pointer (some ⟨sb, so + i * 9 + 4, none⟩)) rfl (by kernel_rfl) (by kernel_rfl) (by kernel_rfl) (fun _ _ _ h => h) (Or.inl ⟨by rfl, (by intro w hSw; go_simp)⟩) (by assumption) ?_
              refine wpAnyH_take (i := 7) (oi := _) (v := .agg #[.int .i64 p.xk, .int .i64 p.xn]) rfl (by kernel_rfl) (by kernel_rfl) (by kernel_rfl) (fun _ _ _ h => h) (Or.inl ⟨by rfl, (by intro w hSw; obtain ⟨hs1, hs2, hs3, hs4⟩ := hSw; go_simp)⟩) (by assumption) ?_
              go_simp
              refine wpAnyH_ready (rs := [8]) (by kernel_rfl) (by simp) ?_
              refine AllReadyH.cons (o := _) rfl (fun K hK => ?_) AllReadyH.nil
              go_simp
              refine (unhide HS).mono ?_
              rintro e5 w5 ⟨rfl, N5⟩
              obtain ⟨ov5, M5⟩ := ((unhide hJ).below ((Below.refl _ w4).drew)).mid.now (o' := { o with its := o.its.set j (p.xk, p.xn) }) N5 (unhide hJ).ok (ks1' := ks) (vs1' := (vs.set j (p.xk, p.xn))) (unhide hJ).ok1 (by show o.its.set j _ = _; rw [(unhide hJ).ok2])
              have HM5 := hide M5
              have p45 := (M5.bel.cell (p := ⟨sb, so + i * 9 + 4, none⟩) hsb).trans pw4
              have p55 := (M5.bel.cell (p := ⟨sb, so + i * 9 + 5, none⟩) hsb).trans pw5
              have HS5 : Hid (w5.cell? ⟨w3.heap.size, 0, none⟩ = some (.int .i64 7) ∧ w5.cell? ⟨w3.heap.size, 1, none⟩ = some (.int .i64 0) ∧ w5.cell? ⟨sb, so + i * 9 + 4, none⟩ = some (.int .i64 p.xk) ∧ w5.cell? ⟨sb, so + i * 9 + 5, none⟩ = some (.int .i64 p.xn)) := ⟨M5.cbx.1, M5.cbx.2, p45, p55⟩
              go_simp
              refine hK.out _ _ (unhide HS5) (fun _ => ?_)
              clear hK K
              refine wpAnyH_take (i := 9) (oi := _) (v := .tuple #[.int .i64 0, .bool true]) rfl (by kernel_rfl) (by kernel_rfl) (by kernel_rfl) (fun _ _ _ h => h) (Or.inl ⟨by rfl, (by intro w hSw; go_simp)⟩) (by assumption) ?_
              refine wpAnyH_take (i := 10) (oi := _) (v := .int .i64 0) rfl (by kernel_rfl) (by kernel_rfl) (by kernel_rfl) (fun _ _ _ h => h) (Or.inl ⟨by rfl, (by intro w hSw; go_simp)⟩) (by assumption) ?_
              refine wpAnyH_take (i := 11) (oi := _) (v := .bool true) rfl (by kernel_rfl) (by kernel_rfl) (by kernel_rfl) (fun _ _ _ h => h) (Or.inl ⟨by rfl, (by intro w hSw; go_simp)⟩) (by assumption) ?_
              go_simp
              refine wpAnyH_ready (rs := [12]) (by kernel_rfl) (by simp) ?_
              refine AllReadyH.cons (o := _) rfl (fun K hK => ?_) AllReadyH.nil
              go_simp
              refine hK.out _ _ (unhide HS5) (fun _ => ?_)
              clear hK K
              refine wpAnyH_ready (rs := [13]) (by kernel_rfl) (by simp) ?_
              refine AllReadyH.cons (o := _) rfl (fun K hK => ?_) AllReadyH.nil
              go_simp
              refine hK.out _ _ (unhide HS5) (fun _ => ?_)
              clear hK K
              refine wpAnyH_done (by kernel_rfl) ?_ _
              clear hHeld hS
              obtain ⟨g2, of2, cp2, ev, hc2, hm2, hgl2, hq2⟩ := M5.vr.full (by omega)
              clear hq2
              cases ev
              have hvr := M5.vr
              obtain ⟨⟨u0, y0⟩, ⟨u1, y1⟩, yf, hgy, r1, r2⟩ := hvr.put rfl hjv (p.xk, p.xn)
              have yf0 := yf (of2 + j * 2)
              have yf1 := yf (of2 + j * 2 + 1)
              have hM7 := (M5.vals (vs2' := vs.set j (p.xk, p.xn)) (r2.mono (fun k _ e => by rw [e]; rfl)) (by rw [List.length_set]; exact r1) (.inl rfl))
              have hJ7 := hide (hM7.full (unhide HFA).1 (by rw [List.length_set]; exact (unhide HFA).2.1) (unhide HFA).2.2.1 (unhide HFA).2.2.2)
              have hJ7' : Hid (FQ w1 w1.heap.size w3.heap.size ((m : Int) + 2) ((m : Int) + 2 - left) ks (vs.set j (p.xk, p.xn)) (.slice ka ks.length kc) (.slice (some ⟨g2, of2, none⟩) vs.length vc) ov5 { o with its := o.its.set j (p.xk, p.xn) } ((w5.setCell ⟨g2, of2 + j * 2, none⟩ (.int .i64 p.xk)).setCell ⟨g2, of2 + j * 2 + 1, none⟩ (.int .i64 p.xn))) := hJ7
              have hs5 : sb < w5.heap.size := World.block_lt_of_cell? _ _ p45
              clear N5 M5 hvr r1 r2 yf hM7 hJ7 c0 c1 p4 p5
              have HZ := hide ((unhide hJ7').are key)
              obtain ⟨c05, c15⟩ := (unhide hJ7').cbx
              have hc5 := (unhide hJ7').cbx.lt
              have hh5 := (unhide hJ7').hp.hlt
              go_wp2_with fail
              refine (unhide HZ).mono ?_
              rintro e9 w9 ⟨rfl, hb9⟩
              have hJ9 := hide ((unhide hJ7').below hb9)
              clear hb9
              go_wp2_with fail
              go_roundg (L - (i + 1))
              case measure => have := unhide hi; omega
              case rel => exact ⟨i + 1, left, ks, (vs.set j (p.xk, p.xn)), _, _, _, _, by have := unhide hi; unfold Hid; omega, by go_num, by simp, by simp, by go_num, hJ9⟩
    · have hiL : i = L := by have := unhide hi; omega
      subst hiL
      have HBL := hide (unhide hJ).bel
      go_wp2_with fail
      go_ret
      exact ⟨rfl, unhide HBL⟩
end Go.Proofs.Ytkpngfahnpidkaa
