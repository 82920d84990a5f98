/-
  play, over what makes.
-/
import Derived.Test.YtkpngfahnpidkaaMAlike
namespace Go.Proofs.Ytkpngfahnpidkaa
open Go.RowKit
set_option linter.unusedVariables false
set_option linter.unusedSimpArgs false

theorem pick7 (w : World) (z : Int) : Calls Try.prog 11 #[.int .i64 z, .int .i64 7] w fun e w' => e = .returned (.int .i64 ((pick z 7 : Nat) : Int)) ∧ w' = w := pick_any w z 7 (by omega) (by omega)
/-- The state between two steps. -/
structure MJ (w : World) (h r sb : Nat) (bud : Int) (n : Nat) (sp : Int) (ov : Value) (os : List OD) (rv : Value) (ds : List RD) (wr : World) : Prop where
  hp : Hp wr h bud sp ov os
  rh : Rh wr r bud sp rv ds
  ag : os.map OD.ao = ds.map (·.a)
  all : All (ds.map (·.a))
  len : ds.length ≤ n
  hfar : ∀ k, Fts h ov os k → w.heap.size ≤ k ∧ k ≠ sb
  rfar : ∀ k, Rfs r rv ds k → w.heap.size ≤ k ∧ k ≠ sb
  apart : ∀ k, Fts h ov os k → ¬ Rfs r rv ds k
  sB : w.heap.size ≤ sb
  sbx : ∀ j : Nat, j < 7 → wr.cell? ⟨sb, j, none⟩ = some (.int .i64 (j : Int))
  bel : Below w.heap.size w wr
  rng : 0 ≤ sp ∧ sp < 9223372036854775808
section
variable {w : World} {h r sb n : Nat} {bud sp : Int} {ov : Value} {os : List OD} {rv : Value} {ds : List RD} {wr w0 w1 w2 w3 : World}
theorem MJ.slt (J : MJ w h r sb bud n sp ov os rv ds wr) : sb < wr.heap.size := World.block_lt_of_cell? _ _ (J.sbx 0 (by omega))
theorem MJ.below (J : MJ w h r sb bud n sp ov os rv ds wr) (b : Below wr.heap.size wr w0) : MJ w h r sb bud n sp ov os rv ds w0 :=
  ⟨J.hp.below b, J.rh.below b, J.ag, J.all, J.len, J.hfar, J.rfar, J.apart, J.sB, fun j hj => (b.cell (p := ⟨sb, j, none⟩) J.slt).trans (J.sbx j hj), J.bel.trans (b.mono J.bel.size), J.rng⟩
/-- Behind told. -/
theorem MJ.mid (J : MJ w h r sb bud n sp ov os rv ds w0) {sp' : Int} {as' : List AO} (N : RNow w0 r bud sp rv ds w1 sp' as') : Hp w1 h bud sp ov os ∧ Below w.heap.size w w1 := by
  have f := N.fr
  exact ⟨J.hp.keep f (fun k hk e => J.apart k hk e), J.bel.trans (f.below J.bel.size (fun k hk e => by have := (J.rfar k e).1; omega))⟩
theorem MJ.next (J : MJ w h r sb bud n sp ov os rv ds w0) {sp' : Int} {as' : List AO} (N : RNow w0 r bud sp rv ds w1 sp' as') (b1 : Below w1.heap.size w1 w2) (A : NowA w2 h bud sp ov os w3 sp' as') (h1 : 0 ≤ sp' ∧ sp' < 9223372036854775808) (h2 : as'.length ≤ ds.length + 1) (h3 : All as') : ∃ ov' os' rv' ds', MJ w h r sb bud (n + 1) sp' ov' os' rv' ds' w3 := by
  obtain ⟨hp1, bel1⟩ := J.mid N
  obtain ⟨rv', ds', R1, m1, f1, g1⟩ := N
  obtain ⟨os', ⟨ov', H3, f3, g3⟩, m3⟩ := A
  have s0 := J.bel.size
  have s1 := f1.size
  have s2 := b1.size
  have sl := J.slt
  have hl := J.hp.lt
  have rl := J.rh.lt
  have hdis : ∀ k, Rfs r rv' ds' k → ¬ Fts h ov os k := fun k hk e => by
    rcases g1 k hk with q | q
    · exact J.apart k e q
    · have := hl k e; omega
  have bel2 : Below w.heap.size w w2 := bel1.trans (b1.mono bel1.size)
  refine ⟨ov', os', rv', ds', H3, (R1.below b1).keep f3 (fun k hk e => hdis k hk e), by rw [m3, m1], by rw [m1]; exact h3, ?_, fun k hk => ?_, fun k hk => ?_, fun k hk e => ?_, J.sB, fun j hj => ?_, bel2.trans (f3.below bel2.size (fun k hk e => by have := (J.hfar k e).1; omega)), h1⟩
  · have := J.len
    have : ds'.length = as'.length := by rw [← m1]; simp
    omega
  · rcases g3 k hk with q | q
    · exact J.hfar k q
    · have := bel2.size; exact ⟨by omega, by omega⟩
  · rcases g1 k hk with q | q
    · exact J.rfar k q
    · exact ⟨by omega, by omega⟩
  · rcases g3 k hk with q | q
    · exact hdis k e q
    · have := R1.lt k e; omega
  · have q1 := (f1.cell (a := ⟨sb, j, none⟩) sl (fun e => (J.rfar sb e).2 rfl)).trans (J.sbx j hj)
    have q2 := (b1.cell (p := ⟨sb, j, none⟩) (by show sb < _; omega)).trans q1
    exact (f3.cell (a := ⟨sb, j, none⟩) (by show sb < _; omega) (fun e => (J.hfar sb e).2 rfl)).trans q2
end
set_option maxRecDepth 100000 in
set_option maxHeartbeats 12800000 in
theorem play_any {W w : World} {h r sb : Nat} {bud sp : Int} {v : Value} {ps : List OpD} {ls : Nat → List (Int × Int)} (hR : RdO W v ps) (hLs : ∀ i, i < ps.length → RtV W (ps.getD i OpD.zero).lv (ls i) ∧ (ls i).length ≤ 8796093021952) (hN : ps.length ≤ 1600000000000) (hb : 0 ≤ bud ∧ bud < 9223372036854775808) {ov : Value} {os : List OD} {rv : Value} {ds : List RD} (J : MJ W h r sb bud 0 sp ov os rv ds w) :
    Calls Try.prog 10 #[.pointer (some ⟨h, 0, none⟩), .pointer (some ⟨r, 0, none⟩), .slice (some ⟨sb, 0, none⟩) 7 7, v] w fun e w' => e = .returned (.bool true) ∧ Below W.heap.size W w' := by
  obtain ⟨sa, scap, rfl, hcells⟩ := hR
  obtain ⟨L, hL⟩ : ∃ L, Hid (ps.length = L) := ⟨_, rfl⟩
  have HC := hide hcells
  have HLS := hide hLs
  have HJ0 := hide J
  rw [unhide hL] at hN ⊢
  clear hcells hLs J
  go_enter Try.func10, Try.ntmps10
  go_wp2_with fail
  go_loopg [9] L (fun g t9 wr => ∃ (i : Nat) (sp : Int) (ov : Value) (os : List OD) (rv : Value) (ds : List RD), Hid (i + g = L) ∧ t9 = .int .i64 (i : Int) ∧ Hid (MJ W h r sb bud i sp ov os rv ds wr))
  case atStart => exact ⟨0, _, _, _, _, _, by unfold Hid; omega, rfl, HJ0⟩
  case round =>
    clear HJ0
    obtain ⟨i, sp, ov, os, rv, ds, hi, rfl, hJ⟩ := hrel
    by_cases hlt' : i < L
    · obtain ⟨b, so, rfl, hsb, hop⟩ := unhide HC i (by rw [unhide hL]; exact hlt')
      have hop2 := hop.below ((unhide hJ).bel) hsb
      obtain ⟨hRt, hlN⟩ := unhide HLS i (by rw [unhide hL]; exact hlt')
      generalize ps.getD i OpD.zero = p at *
      generalize ls i = l at *
      obtain ⟨p0, p1, p2, p3, p4, p5, p6, p7, p8⟩ := hop2
      have hsw := Nat.lt_of_lt_of_le hsb (unhide hJ).bel.size
      have i0 : (0 : Int) ≤ (i : Int) := by omega
      have i1 : (i : Int) < (L : Int) := by omega
      have hk7 := pick_lt p.call (n := 7) (by omega)
      obtain ⟨pk, epk⟩ : ∃ pk, pick p.call 7 = pk := ⟨_, rfl⟩
      rw [epk] at hk7
      have hsome := (unhide hJ).sbx pk hk7
      have hlen := (unhide hJ).len
      obtain ⟨s, sp', as', hsk, hsp', hal, hAll, hTl, hAk⟩ := two_any (W := W) (h := h) (r := r) (ov := ov) (rv := rv) hRt hlN hb (unhide hJ).rng (unhide hJ).ag (unhide hJ).all (by omega) (pk : Int) (by omega)
      have HRT := hide hRt
      obtain ⟨la, lc, elv, _⟩ := hRt
      obtain ⟨LL, hLL⟩ : ∃ LL, Hid (l.length = LL) := ⟨_, rfl⟩
      rw [unhide hLL] at elv
      rw [elv] at p8
      have hBx : Below wr.heap.size wr (wr.alloc (.cells #[.int .i64 p.on, .int .i64 p.call, .int .i64 p.vk, .int .i64 p.vn, .int .i64 p.xk, .int .i64 p.xn, .int .i64 p.i, .int .i64 p.n, .slice la LL lc] 38)) := (Below.refl _ _).alloc (Nat.le_refl _) _
      have eOp : opC p = #[.int .i64 p.on, .int .i64 p.call, .int .i64 p.vk, .int .i64 p.vn, .int .i64 p.xk, .int .i64 p.xn, .int .i64 p.i, .int .i64 p.n, .slice la LL lc] := by unfold opC; rw [elv]
      have HP7 := pick7 (wr.alloc (.cells #[.int .i64 p.on, .int .i64 p.call, .int .i64 p.vk, .int .i64 p.vn, .int .i64 p.xk, .int .i64 p.xn, .int .i64 p.i, .int .i64 p.n, .slice la LL lc] 38)) p.call
      rw [epk] at HP7
      have HP7 := hide HP7
      have HOX : Hid (Opx (wr.alloc (.cells #[.int .i64 p.on, .int .i64 p.call, .int .i64 p.vk, .int .i64 p.vn, .int .i64 p.xk, .int .i64 p.xn, .int .i64 p.i, .int .i64 p.n, .slice la LL lc] 38)) wr.heap.size p) := by
        have := Opx.new wr p 38
        rw [eOp] at this
        exact this
      have HJB := hide ((unhide hJ).below hBx)
      have s1 := (unhide HJB).sbx pk hk7
      have hsl := (unhide HJB).slt
      have EOP := hide eOp
      have ELV := hide elv
      have HTL := hide hTl
      have HAK := hide hAk
      have HST := hide (And.intro hsk (And.intro hsp' (And.intro hal hAll)))
      have k0 : (0 : Int) ≤ (pk : Int) := by omega
      have k1 : (pk : Int) < 7 := by omega
      clear hop hsome elv eOp hBx epk hTl hAk hsk hsp' hal hAll hlen
      go_wp2_with fail
      refine (unhide HP7).mono ?_
      rintro e4 wa ⟨rfl, ewa⟩
      rw [← ewa] at s1 HOX HJB hsl
      obtain ⟨X, eX⟩ : ∃ X, Hid (wr.heap.size = X) := ⟨_, rfl⟩
      have hXa : wr.heap.size < wa.heap.size := (unhide HOX).lt
      have ox : ∀ j (hj : j < 9), wa.cell? ⟨wr.heap.size, j, none⟩ = some ((opL p)[j]'hj) := unhide HOX
      have o0 := ox 0 (by omega)
      have o1 := ox 1 (by omega)
      have o2 := ox 2 (by omega)
      have o3 := ox 3 (by omega)
      have o4 := ox 4 (by omega)
      have o5 := ox 5 (by omega)
      have o6 := ox 6 (by omega)
      have o7 := ox 7 (by omega)
      have o8 := ox 8 (by omega)
      simp only [opL, List.getElem_cons_zero, List.getElem_cons_succ] at o0 o1 o2 o3 o4 o5 o6 o7 o8
      rw [unhide ELV] at o8
      rw [unhide eX] at hXa o0 o1 o2 o3 o4 o5 o6 o7 o8 ⊢
      clear ewa p0 p1 p2 p3 p4 p5 p6 p7 p8 ox hsw
      go_wp2_with fail
      have hTa := unhide HTL wa ((unhide HRT).below (unhide HJB).bel) (unhide HJB).rh
      unfold Tl at hTa
      rw [unhide EOP] at hTa
      refine hTa.mono ?_
      clear hTa
      rintro e5 w1 ⟨x, rfl, A1, N1⟩
      obtain ⟨ia, ic, ka, kc, rfl, O1⟩ := A1
      simp only [saidV]
      have bW : Below w1.heap.size w1 (w1.alloc (.cells #[.int .i64 s.vk, .int .i64 s.vn, .int .i64 s.n, .int .i64 s.trap, .bool s.ok, .int .i64 s.a.k, .slice ia s.a.its.length ic, .slice ka 0 kc, .int .i64 s.a.fn, .int .i64 s.a.cap, .bool s.a.shut, .slice none 0 0] 58)) := (Below.refl _ _).alloc (Nat.le_refl _) _
      obtain ⟨hp1, bel1⟩ := (unhide HJB).mid N1
      have hAa := unhide HAK (w1.alloc (.cells #[.int .i64 s.vk, .int .i64 s.vn, .int .i64 s.n, .int .i64 s.trap, .bool s.ok, .int .i64 s.a.k, .slice ia s.a.its.length ic, .slice ka 0 kc, .int .i64 s.a.fn, .int .i64 s.a.cap, .bool s.a.shut, .slice none 0 0] 58)) (bel1.trans (bW.mono bel1.size)) (hp1.below bW) (fun q e => ((unhide HJB).hfar q e).1)
      unfold Ak at hAa
      rw [unhide EOP] at hAa
      have HAA := hide hAa
      have nX : ¬ Rfs r rv ds X := fun e => by have := (unhide hJ).rh.lt X e; have := unhide eX; omega
      have f1 := N1.fr
      have q0 := (bW.cell (p := ⟨X, 0, none⟩) (Nat.lt_of_lt_of_le hXa f1.size)).trans ((f1.cell (a := ⟨X, 0, none⟩) hXa nX).trans o0)
      have q1 := (bW.cell (p := ⟨X, 1, none⟩) (Nat.lt_of_lt_of_le hXa f1.size)).trans ((f1.cell (a := ⟨X, 1, none⟩) hXa nX).trans o1)
      have q2 := (bW.cell (p := ⟨X, 2, none⟩) (Nat.lt_of_lt_of_le hXa f1.size)).trans ((f1.cell (a := ⟨X, 2, none⟩) hXa nX).trans o2)
      have q3 := (bW.cell (p := ⟨X, 3, none⟩) (Nat.lt_of_lt_of_le hXa f1.size)).trans ((f1.cell (a := ⟨X, 3, none⟩) hXa nX).trans o3)
      have q4 := (bW.cell (p := ⟨X, 4, none⟩) (Nat.lt_of_lt_of_le hXa f1.size)).trans ((f1.cell (a := ⟨X, 4, none⟩) hXa nX).trans o4)
      have q5 := (bW.cell (p := ⟨X, 5, none⟩) (Nat.lt_of_lt_of_le hXa f1.size)).trans ((f1.cell (a := ⟨X, 5, none⟩) hXa nX).trans o5)
      have q6 := (bW.cell (p := ⟨X, 6, none⟩) (Nat.lt_of_lt_of_le hXa f1.size)).trans ((f1.cell (a := ⟨X, 6, none⟩) hXa nX).trans o6)
      have q7 := (bW.cell (p := ⟨X, 7, none⟩) (Nat.lt_of_lt_of_le hXa f1.size)).trans ((f1.cell (a := ⟨X, 7, none⟩) hXa nX).trans o7)
      have q8 := (bW.cell (p := ⟨X, 8, none⟩) (Nat.lt_of_lt_of_le hXa f1.size)).trans ((f1.cell (a := ⟨X, 8, none⟩) hXa nX).trans o8)
      have hX1 : X < (w1.alloc (.cells #[.int .i64 s.vk, .int .i64 s.vn, .int .i64 s.n, .int .i64 s.trap, .bool s.ok, .int .i64 s.a.k, .slice ia s.a.its.length ic, .slice ka 0 kc, .int .i64 s.a.fn, .int .i64 s.a.cap, .bool s.a.shut, .slice none 0 0] 58)).heap.size := World.block_lt_of_cell? _ _ q0
      have hh1 : h < (w1.alloc (.cells #[.int .i64 s.vk, .int .i64 s.vn, .int .i64 s.n, .int .i64 s.trap, .bool s.ok, .int .i64 s.a.k, .slice ia s.a.its.length ic, .slice ka 0 kc, .int .i64 s.a.fn, .int .i64 s.a.cap, .bool s.a.shut, .slice none 0 0] 58)).heap.size := (hp1.below bW).hlt
      have SW : SaidV (w1.alloc (.cells #[.int .i64 s.vk, .int .i64 s.vn, .int .i64 s.n, .int .i64 s.trap, .bool s.ok, .int .i64 s.a.k, .slice ia s.a.its.length ic, .slice ka 0 kc, .int .i64 s.a.fn, .int .i64 s.a.cap, .bool s.a.shut, .slice none 0 0] 58)) w1.heap.size (SV.mk s.vk s.vn s.n s.trap s.ok s.a.k ia s.a.its.length ic ka 0 kc s.a.fn s.a.cap s.a.shut) := SaidV.new w1 (SV.mk s.vk s.vn s.n s.trap s.ok s.a.k ia s.a.its.length ic ka 0 kc s.a.fn s.a.cap s.a.shut) 58
      have HK1 := hide (And.intro N1 (And.intro O1 (And.intro bW SW)))
      have hwX : wa.heap.size ≤ w1.heap.size := f1.size
      have HWX := hide hwX
      clear N1 O1 bW hp1 bel1 hAa nX f1 o0 o1 o2 o3 o4 o5 o6 o7 o8 SW hwX s1 hsl
      go_wp2_with fail
      refine (unhide HAA).mono ?_
      rintro e6 w2 ⟨y, rfl, A2, N2⟩
      obtain ⟨ja, jc, la2, lc2, rfl, O2⟩ := A2
      simp only [saidV]
      obtain ⟨N1, O1, bW, SW⟩ := unhide HK1
      have hwX := unhide HWX
      have f2 := N2.fr
      have hFl : ∀ q, Fts h ov os q → q < wr.heap.size := (unhide hJ).hp.lt
      have hwr : wr.heap.size ≤ wa.heap.size := by have := unhide eX; omega
      have hz1 : (w1.alloc (.cells #[.int .i64 s.vk, .int .i64 s.vn, .int .i64 s.n, .int .i64 s.trap, .bool s.ok, .int .i64 s.a.k, .slice ia s.a.its.length ic, .slice ka 0 kc, .int .i64 s.a.fn, .int .i64 s.a.cap, .bool s.a.shut, .slice none 0 0] 58)).heap.size = w1.heap.size + 1 := by simp
      have SW2 := SW.fr f2 (fun e => by have := hFl _ e; omega)
      have b3 : Below w2.heap.size w2 (w2.alloc (.cells #[.int .i64 s.vk, .int .i64 s.vn, .int .i64 s.n, .int .i64 s.trap, .bool s.ok, .int .i64 s.a.k, .slice ja s.a.its.length jc, .slice la2 0 lc2, .int .i64 s.a.fn, .int .i64 s.a.cap, .bool s.a.shut, .slice none 0 0] 58)) := (Below.refl _ _).alloc (Nat.le_refl _) _
      have f3 := Fr.of_below (S := fun _ => False) b3
      have SW3 := SW2.fr f3 (fun e => e)
      have rj := O2.1.fr f3 (fun _ _ e => e)
      have ri := ((O1.1.fr (Fr.of_below (S := fun _ => False) bW) (fun _ _ e => e)).fr f2 (fun k hk e => by have := hFl _ e; have := O1.2.2 k (.inl hk); omega)).fr f3 (fun _ _ e => e)
      have HSA := hide (same_any (vk := s.vk) (vn := s.vn) (n := s.n) (trap := s.trap) (ok := s.ok) (a := s.a) (ka := la2) (kc := lc2) (la := ka) (lc := kc) rj ri)
      obtain ⟨hsk, hsp', hal, hAll⟩ := unhide HST
      obtain ⟨ov', os', rv', ds', J2⟩ := (unhide HJB).next N1 bW N2 hsp' hal hAll
      have HJ3 := hide (J2.below b3)
      have lw : w1.heap.size < (w2.alloc (.cells #[.int .i64 s.vk, .int .i64 s.vn, .int .i64 s.n, .int .i64 s.trap, .bool s.ok, .int .i64 s.a.k, .slice ja s.a.its.length jc, .slice la2 0 lc2, .int .i64 s.a.fn, .int .i64 s.a.cap, .bool s.a.shut, .slice none 0 0] 58)).heap.size := SW3.lt
      have t0 := SW3.1 0 (by omega)
      have t1 := SW3.1 1 (by omega)
      have t2 := SW3.1 2 (by omega)
      have t3 := SW3.1 3 (by omega)
      have t4 := SW3.1 4 (by omega)
      have t5 := SW3.1 5 (by omega)
      have t6 := SW3.1 6 (by omega)
      have t7 := SW3.1 7 (by omega)
      have t8 := SW3.1 8 (by omega)
      have t9 := SW3.1 9 (by omega)
      have t10 := SW3.1 10 (by omega)
      have t11 := SW3.1 11 (by omega)
      simp only [saidLV, List.getElem_cons_zero, List.getElem_cons_succ] at t0 t1 t2 t3 t4 t5 t6 t7 t8 t9 t10 t11
      clear N1 O1 bW SW hwX f2 hFl hwr hz1 SW2 b3 f3 SW3 rj ri J2 O2 N2 q0 q1 q2 q3 q4 q5 q6 q7 q8 hX1 hh1
      go_wp2_with fail
      refine (unhide HSA).mono ?_
      rintro e7 w4 ⟨rfl, b4⟩
      have HJ4 := hide ((unhide HJ3).below b4)
      clear b4 HSA t0 t1 t2 t3 t4 t5 t6 t7 t8 t9 t10 t11 lw
      go_wp2_with fail
      go_roundg (gk - 1)
      case measure => have := unhide hi; omega
      case rel => exact ⟨i + 1, sp', ov', os', rv', ds', by have := unhide hi; unfold Hid; omega, by go_num, HJ4⟩
    · have hiL : i = L := by have := unhide hi; omega
      subst hiL
      have hlen := (unhide hJ).len
      have HAL := hide (alike_any (unhide hJ).hp (unhide hJ).rh (unhide hJ).ag (unhide hJ).all (by omega))
      have BJ := hide (unhide hJ).bel
      go_wp2_with fail
      refine (unhide HAL).mono ?_
      rintro e1 w1 ⟨rfl, b1⟩
      have HB1 := hide ((unhide BJ).trans (b1.mono (unhide BJ).size))
      clear b1
      go_wp2_with fail
      go_ret
      exact ⟨rfl, unhide HB1⟩
end Go.Proofs.Ytkpngfahnpidkaa
