/-
  A program is written over.
-/
import Derived.Test.YtepfhchbmpfaoaaTn
namespace Go.Proofs.Ytepfhchbmpfaoaa
open Go.RowKit
set_option linter.unusedVariables false
def over : ByteArray := { data := #[111, 118, 101, 114] }
set_option maxRecDepth 100000 in
set_option maxHeartbeats 6400000 in
theorem turned_any {w : World} {B q cg co ccap fg fo fcap NC NF : Nat} {xs : List Fv} (h : Tn (w.alloc (.cells #[.slice (some ⟨cg, co, none⟩) NC ccap, .slice (some ⟨fg, fo, none⟩) NF fcap] 25)) B q cg co ccap fg fo fcap NC xs (w.alloc (.cells #[.slice (some ⟨cg, co, none⟩) NC ccap, .slice (some ⟨fg, fo, none⟩) NF fcap] 25))) (hNF : xs.length = NF) (hqw : q ≤ w.heap.size) (hsh : ∀ (k : Nat) (x : Fv), xs[k]? = some x → (∃ a n c, x.cv = .slice a n c) ∧ (∃ a n c, x.hv = .slice a n c)) :
    Calls Try.prog 8 #[.agg #[.slice (some ⟨cg, co, none⟩) NC ccap, .slice (some ⟨fg, fo, none⟩) NF fcap]] w fun e w' => e = .returned (.tuple #[]) ∧ ∃ xs' : List Fv, xs'.length = NF ∧ Tn (w.alloc (.cells #[.slice (some ⟨cg, co, none⟩) NC ccap, .slice (some ⟨fg, fo, none⟩) NF fcap] 25)) B q cg co ccap fg fo fcap NC xs' w' ∧ ∀ (k : Nat) (x : Fv), xs'[k]? = some x → x.name = over ∧ (∃ a n c, x.cv = .slice a n c) ∧ (∃ a n c, x.hv = .slice a n c) := by
  have HSH := hide hsh
  obtain ⟨W0, hW0⟩ : ∃ x, Hid ((w.alloc (.cells #[.slice (some ⟨cg, co, none⟩) NC ccap, .slice (some ⟨fg, fo, none⟩) NF fcap] 25)) = x) := ⟨_, rfl⟩
  have hbx : Hid (w.heap.size < W0.heap.size ∧ W0.cell? ⟨w.heap.size, 0, none⟩ = some (.slice (some ⟨cg, co, none⟩) NC ccap) ∧ W0.cell? ⟨w.heap.size, 1, none⟩ = some (.slice (some ⟨fg, fo, none⟩) NF fcap)) := by
    obtain ⟨b0, b1, _, b3⟩ := box2 (w := w) (wr := W0) (u := .slice (some ⟨cg, co, none⟩) NC ccap) (v := .slice (some ⟨fg, fo, none⟩) NF fcap) (e := 25) (by rw [← unhide hW0]; exact Below.refl _ _)
    exact ⟨b3, b0, b1⟩
  rw [unhide hW0] at h ⊢
  have hT0 := hide h
  have hcl : Hid (∀ wr, Fr (fun k => B ≤ k ∧ k < q) W0 wr → wr.cell? ⟨w.heap.size, 0, none⟩ = some (.slice (some ⟨cg, co, none⟩) NC ccap) ∧ wr.cell? ⟨w.heap.size, 1, none⟩ = some (.slice (some ⟨fg, fo, none⟩) NF fcap)) := fun wr f =>
    ⟨(f.cell (a := ⟨w.heap.size, 0, none⟩) (unhide hbx).1 (fun e => by simp at e; omega)).trans (unhide hbx).2.1, (f.cell (a := ⟨w.heap.size, 1, none⟩) (unhide hbx).1 (fun e => by simp at e; omega)).trans (unhide hbx).2.2⟩
  clear hsh h
  have hNF0 := hide hNF
  clear hNF
  go_enter Try.func8, Try.ntmps8
  go_wp2_with fail
  rw [unhide hW0]
  go_loopg [2] NC (fun gg t5 wr => ∃ (i : Nat), Hid (i + gg = NC) ∧ t5 = .int .i64 (i : Int) ∧ Hid (Tn W0 B q cg co ccap fg fo fcap NC xs wr))
  case atStart => exact ⟨0, by unfold Hid; omega, rfl, hT0⟩
  case round =>
    clear hT0
    obtain ⟨i, hi, rfl, hT⟩ := hrel
    obtain ⟨c0, c1⟩ := unhide hcl _ (unhide hT).fr
    by_cases hlt : i < NC
    · obtain ⟨us, r⟩ := (unhide hT).crow
      obtain ⟨g, off, cc, e, hmc, hml, hgl, hce⟩ := r.full (by omega)
      cases e
      have hmx : NC ≤ 9223372036854775807 := Nat.le_trans hmc hml
      have hap : B ≤ cg ∧ cg < q ∧ cg ≠ fg := ⟨(unhide hT).cq.1, (unhide hT).cq.2, (unhide hT).ne⟩
      have hfz : ∀ o, wr.frozen? ⟨cg, o, none⟩ = false := fun o => r.free rfl o
      have hxl := r.1
      have ilt : i * 3 + 3 ≤ NC * 3 := by omega
      obtain ⟨o0, w0⟩ : ∃ o, wr.cell? ⟨cg, co + i * 3, none⟩ = some o := ⟨us[i * 3 + 0]'(by omega), by rw [show co + i * 3 = co + (i * 3 + 0) by omega, hce _ (by omega)]; exact List.getElem?_eq_getElem _⟩
      have z0 := hfz (co + i * 3)
      obtain ⟨o1, w1⟩ : ∃ o, wr.cell? ⟨cg, co + i * 3 + 1, none⟩ = some o := ⟨us[i * 3 + 1]'(by omega), by rw [show co + i * 3 + 1 = co + (i * 3 + 1) by omega, hce _ (by omega)]; exact List.getElem?_eq_getElem _⟩
      have z1 := hfz (co + i * 3 + 1)
      obtain ⟨o2, w2⟩ : ∃ o, wr.cell? ⟨cg, co + i * 3 + 2, none⟩ = some o := ⟨us[i * 3 + 2]'(by omega), by rw [show co + i * 3 + 2 = co + (i * 3 + 2) by omega, hce _ (by omega)]; exact List.getElem?_eq_getElem _⟩
      have z2 := hfz (co + i * 3 + 2)
      have hT2 := fun (u0 u1 u2 : Value) (p0 p1 p2 : Nat) => hide ((((unhide hT).setAny hap p0 u0).setAny hap p1 u1).setAny hap p2 u2)
      have i0 : (0 : Int) ≤ (i : Int) := by omega
      have i1 : (i : Int) < (NC : Int) := by omega
      clear r hce hfz
      go_wp2_with fail
      go_roundg (gk - 1)
      case measure => have := unhide hi; omega
      case rel => exact ⟨i + 1, by have := unhide hi; unfold Hid; omega, by go_num, hT2 _ _ _ _ _ _⟩
    · have hiL : NC = i := by have := unhide hi; omega
      subst hiL
      go_wp2_with fail
      go_loopg [3] NF (fun gg t5 wr => ∃ (k : Nat) (xs : List Fv), Hid (k + gg = NF) ∧ t5 = .int .i64 (k : Int) ∧ Hid (xs.length = NF) ∧ Hid (Tn W0 B q cg co ccap fg fo fcap NC xs wr) ∧ Hid (∀ (j : Nat) (x : Fv), xs[j]? = some x → (j < k → x.name = over) ∧ (∃ a n c, x.cv = .slice a n c) ∧ (∃ a n c, x.hv = .slice a n c)))
      case atStart => exact ⟨0, xs, by unfold Hid; omega, rfl, hNF0, hT, fun j x hx => ⟨fun h => absurd h (Nat.not_lt_zero _), unhide HSH j x hx⟩⟩
      case round =>
        clear hT hi c0 c1 HSH hNF0 hlt
        obtain ⟨k, xs, hkk, rfl, hXL, hT, HX⟩ := hrel
        obtain ⟨G, rfl⟩ : ∃ G, G = gk := ⟨_, rfl⟩
        obtain ⟨c0, c1⟩ := unhide hcl _ (unhide hT).fr
        by_cases hlt : k < NF
        · obtain ⟨x, hx0⟩ : ∃ x, xs[k]? = some x := ⟨_, List.getElem?_eq_getElem (by rw [unhide hXL]; exact hlt)⟩
          obtain ⟨_, ⟨a1, n1, c1', e1⟩, ⟨a2, n2, c2', e2⟩⟩ := unhide HX k x hx0
          obtain ⟨nm, pr, lc, xcv, xhv⟩ := x
          simp only at e1 e2
          subst e1 e2
          have hxk := hide hx0
          clear hx0
          have xr := (Rx.of_ro (unhide hT).frow).elem zF (unhide hxk)
          obtain ⟨_, _, _, ex, hNc, hNm, hfl, xc⟩ := xr
          cases ex
          have hNFx : NF ≤ 9223372036854775807 := by rw [← unhide hXL]; exact Nat.le_trans hNc hNm
          have x3 := xc 3 _ rfl
          have x4 := xc 4 _ rfl
          clear xc
          have k0i : (0 : Int) ≤ (k : Int) := by omega
          have k1i : (k : Int) < (NF : Int) := by omega
          go_wp2_with fail
          go_loopg [4] n1 (fun gg t5 wr => ∃ (i : Nat), Hid (i + gg = n1) ∧ t5 = .int .i64 (i : Int) ∧ Hid (Tn W0 B q cg co ccap fg fo fcap NC xs wr))
          case atStart => exact ⟨0, by unfold Hid; omega, rfl, hT⟩
          case round =>
            clear hT c0 c1 x3 x4
            obtain ⟨i, hi, rfl, hT⟩ := hrel
            obtain ⟨c0, c1⟩ := unhide hcl _ (unhide hT).fr
            have xr := (Rx.of_ro (unhide hT).frow).elem zF (unhide hxk)
            obtain ⟨_, _, _, ex, _, _, hfl, xc⟩ := xr
            cases ex
            have x3 := xc 3 _ rfl
            have x4 := xc 4 _ rfl
            clear xc
            by_cases hlt : i < n1
            · obtain ⟨⟨m3, us3, r3⟩, ⟨m4, us4, r4⟩⟩ := (unhide hT).rows k _ (unhide hxk)
              simp only at r3 r4
              obtain ⟨g, off, cc, e, hmc, hml, hgl, hce⟩ := r3.full (by
                obtain ⟨_, _, e, _⟩ := r3.shape
                cases e; omega)
              cases e
              have hmx : n1 ≤ 9223372036854775807 := Nat.le_trans hmc hml
              have hap := (unhide hT).apart k _ g (unhide hxk) (.inl rfl)
              have hfz : ∀ o, wr.frozen? ⟨g, o, none⟩ = false := fun o => r3.free rfl o
              have hxl := r3.1
              have ilt : i * 2 + 2 ≤ n1 * 2 := by omega
              obtain ⟨o0, w0⟩ : ∃ o, wr.cell? ⟨g, off + i * 2, none⟩ = some o := ⟨us3[i * 2 + 0]'(by omega), by rw [show off + i * 2 = off + (i * 2 + 0) by omega, hce _ (by omega)]; exact List.getElem?_eq_getElem _⟩
              have z0 := hfz (off + i * 2)
              obtain ⟨o1, w1⟩ : ∃ o, wr.cell? ⟨g, off + i * 2 + 1, none⟩ = some o := ⟨us3[i * 2 + 1]'(by omega), by rw [show off + i * 2 + 1 = off + (i * 2 + 1) by omega, hce _ (by omega)]; exact List.getElem?_eq_getElem _⟩
              have z1 := hfz (off + i * 2 + 1)
              have hT2 := fun (u0 u1 : Value) (p0 p1 : Nat) => hide (((unhide hT).setAny hap p0 u0).setAny hap p1 u1)
              have k0i : (0 : Int) ≤ (k : Int) := by omega
              have k1i : (k : Int) < (NF : Int) := by omega
              have i0 : (0 : Int) ≤ (i : Int) := by omega
              have i1 : (i : Int) < (n1 : Int) := by omega
              clear r3 r4 hce hfz
              go_wp2_with fail
              go_roundg (gk - 1)
              case measure => have := unhide hi; omega
              case rel => exact ⟨i + 1, by have := unhide hi; unfold Hid; omega, by go_num, hT2 _ _ _ _⟩
            · have hiL : n1 = i := by have := unhide hi; omega
              subst hiL
              have k0i : (0 : Int) ≤ (k : Int) := by omega
              have k1i : (k : Int) < (NF : Int) := by omega
              go_wp2_with fail
              go_loopg [5] n2 (fun gg t5 wr => ∃ (i : Nat), Hid (i + gg = n2) ∧ t5 = .int .i64 (i : Int) ∧ Hid (Tn W0 B q cg co ccap fg fo fcap NC xs wr))
              case atStart => exact ⟨0, by unfold Hid; omega, rfl, hT⟩
              case round =>
                clear hT c0 c1 x3 x4
                obtain ⟨i, hi, rfl, hT⟩ := hrel
                obtain ⟨c0, c1⟩ := unhide hcl _ (unhide hT).fr
                have xr := (Rx.of_ro (unhide hT).frow).elem zF (unhide hxk)
                obtain ⟨_, _, _, ex, _, _, hfl, xc⟩ := xr
                cases ex
                have x3 := xc 3 _ rfl
                have x4 := xc 4 _ rfl
                clear xc
                by_cases hlt : i < n2
                · obtain ⟨⟨m3, us3, r3⟩, ⟨m4, us4, r4⟩⟩ := (unhide hT).rows k _ (unhide hxk)
                  simp only at r3 r4
                  obtain ⟨g, off, cc, e, hmc, hml, hgl, hce⟩ := r4.full (by
                    obtain ⟨_, _, e, _⟩ := r4.shape
                    cases e; omega)
                  cases e
                  have hmx : n2 ≤ 9223372036854775807 := Nat.le_trans hmc hml
                  have hap := (unhide hT).apart k _ g (unhide hxk) (.inr rfl)
                  have hfz : ∀ o, wr.frozen? ⟨g, o, none⟩ = false := fun o => r4.free rfl o
                  have hxl := r4.1
                  have ilt : i * 4 + 4 ≤ n2 * 4 := by omega
                  obtain ⟨o0, w0⟩ : ∃ o, wr.cell? ⟨g, off + i * 4, none⟩ = some o := ⟨us4[i * 4 + 0]'(by omega), by rw [show off + i * 4 = off + (i * 4 + 0) by omega, hce _ (by omega)]; exact List.getElem?_eq_getElem _⟩
                  have z0 := hfz (off + i * 4)
                  obtain ⟨o1, w1⟩ : ∃ o, wr.cell? ⟨g, off + i * 4 + 1, none⟩ = some o := ⟨us4[i * 4 + 1]'(by omega), by rw [show off + i * 4 + 1 = off + (i * 4 + 1) by omega, hce _ (by omega)]; exact List.getElem?_eq_getElem _⟩
                  have z1 := hfz (off + i * 4 + 1)
                  obtain ⟨o2, w2⟩ : ∃ o, wr.cell? ⟨g, off + i * 4 + 2, none⟩ = some o := ⟨us4[i * 4 + 2]'(by omega), by rw [show off + i * 4 + 2 = off + (i * 4 + 2) by omega, hce _ (by omega)]; exact List.getElem?_eq_getElem _⟩
                  have z2 := hfz (off + i * 4 + 2)
                  obtain ⟨o3, w3⟩ : ∃ o, wr.cell? ⟨g, off + i * 4 + 3, none⟩ = some o := ⟨us4[i * 4 + 3]'(by omega), by rw [show off + i * 4 + 3 = off + (i * 4 + 3) by omega, hce _ (by omega)]; exact List.getElem?_eq_getElem _⟩
                  have z3 := hfz (off + i * 4 + 3)
                  have hT2 := fun (u0 u1 u2 u3 : Value) (p0 p1 p2 p3 : Nat) => hide (((((unhide hT).setAny hap p0 u0).setAny hap p1 u1).setAny hap p2 u2).setAny hap p3 u3)
                  have k0i : (0 : Int) ≤ (k : Int) := by omega
                  have k1i : (k : Int) < (NF : Int) := by omega
                  have i0 : (0 : Int) ≤ (i : Int) := by omega
                  have i1 : (i : Int) < (n2 : Int) := by omega
                  clear r3 r4 hce hfz
                  go_wp2_with fail
                  go_roundg (gk - 1)
                  case measure => have := unhide hi; omega
                  case rel => exact ⟨i + 1, by have := unhide hi; unfold Hid; omega, by go_num, hT2 _ _ _ _ _ _ _ _⟩
                · have hiL : n2 = i := by have := unhide hi; omega
                  subst hiL
                  have k0i : (0 : Int) ≤ (k : Int) := by omega
                  have k1i : (k : Int) < (NF : Int) := by omega
                  obtain ⟨⟨old0, q0⟩, f0, A0⟩ := (unhide hT).setF (x' := ⟨{ data := #[111, 118, 101, 114] }, pr, lc, .slice a1 n1 c1', .slice a2 n2 c2'⟩) (u := .string { data := #[111, 118, 101, 114] }) (unhide hxk) (j := 0) (by omega) (fun i hi => by
                    match i, hi with
                    | 0, _ => rfl
                    | 1, _ => rfl
                    | 2, _ => rfl
                    | 3, _ => rfl
                    | 4, _ => rfl) rfl rfl
                  have hks : k < xs.length := by rw [unhide hXL]; omega
                  obtain ⟨⟨old1, q1⟩, f1, A1⟩ := (unhide A0).setF (x' := ⟨{ data := #[111, 118, 101, 114] }, -1, lc, .slice a1 n1 c1', .slice a2 n2 c2'⟩) (u := .int .i64 (-1)) (List.getElem?_set_self hks) (j := 1) (by omega) (fun i hi => by
                    match i, hi with
                    | 0, _ => rfl
                    | 1, _ => rfl
                    | 2, _ => rfl
                    | 3, _ => rfl
                    | 4, _ => rfl) rfl rfl
                  have c1' := (unhide hcl _ (unhide A0).fr).2
                  rw [List.set_set] at A1
                  have k2i : (0 : Int) ≤ (k : Int) := by omega
                  have k3i : (k : Int) < (NF : Int) := by omega
                  simp only [Nat.add_zero] at q0 f0 A0 A1 q1 f1 c1'
                  go_wp2_with fail
                  go_roundg (G - 1)
                  case measure => have := unhide hkk; omega
                  case rel => exact ⟨k + 1, _, by have := unhide hkk; unfold Hid; omega, by go_num, by unfold Hid; rw [List.length_set]; exact unhide hXL, A1, fun j x hx => by
                    by_cases e : k = j
                    · subst e
                      rw [List.getElem?_set_self hks] at hx
                      cases hx
                      exact ⟨fun _ => rfl, ⟨_, _, _, rfl⟩, ⟨_, _, _, rfl⟩⟩
                    · rw [List.getElem?_set_ne e] at hx
                      obtain ⟨p1, p2⟩ := unhide HX j x hx
                      exact ⟨fun h => p1 (by omega), p2⟩⟩
        · have hiL : k = NF := by have := unhide hkk; omega
          subst hiL
          go_wp2_with fail
          go_end0
          exact ⟨rfl, xs, unhide hXL, unhide hT, fun j x hx => ⟨(unhide HX j x hx).1 (by have := (List.getElem?_eq_some_iff.1 hx).1; rw [unhide hXL] at this; exact this), (unhide HX j x hx).2⟩⟩
end Go.Proofs.Ytepfhchbmpfaoaa
