/-
  CopyObject, Object: the document's.
-/
import Derived.Test.YtkpngfahnpidkaaMMake
namespace Go.Proofs.Ytkpngfahnpidkaa
open Go.RowKit
set_option linter.unusedVariables false
set_option linter.unusedSimpArgs false

set_option maxRecDepth 100000 in
set_option maxHeartbeats 3200000 in
theorem copyO_any {w : World} {d : RD} (hok : d.ok w) (hk : d.a.keys = []) (hN : d.a.its.length ≤ 8796093021952) :
    Calls Try.prog 70 #[.agg #[.int .i64 d.a.k, d.iv, d.kv, .int .i64 d.a.fn, .int .i64 d.a.cap, .bool d.a.shut]] w fun e w' => ∃ v1, e = .returned (.agg #[.int .i64 d.a.k, v1, .slice none 0 0, .int .i64 d.a.fn, .int .i64 d.a.cap, .bool d.a.shut]) ∧ Gw w d.a.its v1 w' := by
  obtain ⟨ia, ic, ie, _⟩ := hok.items.shape
  obtain ⟨ka, kc, ke, _⟩ := hok.keys.shape
  rw [hk] at ke
  obtain ⟨W0, e0⟩ : ∃ W0, W0 = (w.alloc (.cells #[.int .i64 d.a.k, .slice ia d.a.its.length ic, .slice ka 0 kc, .int .i64 d.a.fn, .int .i64 d.a.cap, .bool d.a.shut] 56)).alloc (.cells #[.int .i64 0, .slice none 0 0, .slice none 0 0, .int .i64 0, .int .i64 0, .bool false] 56) := ⟨_, rfl⟩
  have z0 : W0.heap.size = w.heap.size + 2 := by rw [e0]; simp
  obtain ⟨W1, e1⟩ : ∃ W1, W1 = W0.alloc (.cells #[.int .i64 d.a.k, .slice ia d.a.its.length ic, .slice ka 0 kc, .int .i64 d.a.fn, .int .i64 d.a.cap, .bool d.a.shut] 56) := ⟨_, rfl⟩
  have z1 : W1.heap.size = w.heap.size + 3 := by rw [e1]; simp [z0]
  have hB : Below w.heap.size w W1 := by rw [e1, e0]; exact (((Below.refl _ _).alloc (Nat.le_refl _) _).alloc (by simp) _).alloc (by simp; omega) _
  have HC := hide (copyV_any (RtV.of_ro (hok.items.fr (Fr.of_below (S := fun _ => False) hB) (fun _ _ e => e))) hN)
  rw [ie] at HC
  have S0 : Six W1 w.heap.size (.int .i64 d.a.k) (.slice ia d.a.its.length ic) (.slice ka 0 kc) (.int .i64 d.a.fn) (.int .i64 d.a.cap) (.bool d.a.shut) := by
    rw [e1, e0]
    exact ((Six.new w _ _ _ _ _ _ 56).fr ((Fr.refl (fun _ => False) _).alloc _) (fun e => e)).fr ((Fr.refl (fun _ => False) _).alloc _) (fun e => e)
  have S1 : Six W1 (w.heap.size + 1) (.int .i64 0) (.slice none 0 0) (.slice none 0 0) (.int .i64 0) (.int .i64 0) (.bool false) := by
    have := Six.new (w.alloc (.cells #[.int .i64 d.a.k, .slice ia d.a.its.length ic, .slice ka 0 kc, .int .i64 d.a.fn, .int .i64 d.a.cap, .bool d.a.shut] 56)) (.int .i64 0) (.slice none 0 0) (.slice none 0 0) (.int .i64 0) (.int .i64 0) (.bool false) 56
    rw [show (w.alloc (.cells #[.int .i64 d.a.k, .slice ia d.a.its.length ic, .slice ka 0 kc, .int .i64 d.a.fn, .int .i64 d.a.cap, .bool d.a.shut] 56)).heap.size = w.heap.size + 1 by simp, ← e0] at this
    rw [e1]
    exact this.fr ((Fr.refl (fun _ => False) _).alloc _) (fun e => e)
  have S2 : Six W1 (w.heap.size + 2) (.int .i64 d.a.k) (.slice ia d.a.its.length ic) (.slice ka 0 kc) (.int .i64 d.a.fn) (.int .i64 d.a.cap) (.bool d.a.shut) := by
    have := Six.new W0 (.int .i64 d.a.k) (.slice ia d.a.its.length ic) (.slice ka 0 kc) (.int .i64 d.a.fn) (.int .i64 d.a.cap) (.bool d.a.shut) 56
    rw [z0, ← e1] at this
    exact this
  have HS := hide (And.intro S0 (And.intro S1 S2))
  have HB := hide hB
  have HZ := hide z1
  rw [e1, e0] at HC
  rw [ie, ke]
  have E1 := hide e1
  have E0 := hide e0
  clear hok S0 S1 S2 hB z0 z1 e1 e0 ie ke hk
  go_enter Try.func70, Try.ntmps70
  go_wp2_with fail
  refine (unhide HC).mono ?_
  rintro e1 w1 ⟨v1, rfl, g1, g2, g3⟩
  rw [← unhide E0, ← unhide E1] at g2 g3
  obtain ⟨S0, S1, S2⟩ := unhide HS
  have f := Fr.of_below (S := fun _ => False) g2
  have S0 := S0.fr f (fun e => e)
  have S1 := S1.fr f (fun e => e)
  have S2 := S2.fr f (fun e => e)
  obtain ⟨va, vc, ve, _⟩ := g1.shape
  subst ve
  have lx : w.heap.size + 2 < w1.heap.size := S2.lt
  have xf := S2.2
  have yf := S1.2
  have o0 := S0.1 0 (by omega)
  have o1 := S0.1 1 (by omega)
  have o2 := S0.1 2 (by omega)
  have o3 := S0.1 3 (by omega)
  have o4 := S0.1 4 (by omega)
  have o5 := S0.1 5 (by omega)
  simp only [sixL, List.getElem_cons_zero, List.getElem_cons_succ] at o0 o1 o2 o3 o4 o5
  have x0 := S2.1 0 (by omega)
  have x1 := S2.1 1 (by omega)
  have x2 := S2.1 2 (by omega)
  have x3 := S2.1 3 (by omega)
  have x4 := S2.1 4 (by omega)
  have x5 := S2.1 5 (by omega)
  simp only [sixL, List.getElem_cons_zero, List.getElem_cons_succ] at x0 x1 x2 x3 x4 x5
  have y0 := S1.1 0 (by omega)
  have y1 := S1.1 1 (by omega)
  have y2 := S1.1 2 (by omega)
  have y3 := S1.1 3 (by omega)
  have y4 := S1.1 4 (by omega)
  have y5 := S1.1 5 (by omega)
  simp only [sixL, List.getElem_cons_zero, List.getElem_cons_succ] at y0 y1 y2 y3 y4 y5
  have HG := hide (And.intro g1 (And.intro g2 g3))
  have HS1 := hide S1
  have HS2 := hide S2
  clear g1 g2 g3 f S0 S1 S2
  go_wp2_with fail
  refine (copyL_nil _ _ _).mono ?_
  rintro e2 w2 ⟨rfl, rfl⟩
  go_wp2_with fail
  clear o0 o1 o2 o3 o4 o5 x0 x1 x2 x3 x4 x5 y0 y1 y2 y3 y4 y5 xf yf
  have fx : Fr (fun q => q = w.heap.size + 2) w1 ((w1.setCell ⟨w.heap.size + 2, 1, none⟩ (.slice va d.a.its.length vc)).setCell ⟨w.heap.size + 2, 2, none⟩ (.slice none 0 0)) := ((Fr.refl (fun q => q = w.heap.size + 2) w1).setCell ⟨w.heap.size + 2, 1, none⟩ (.inr rfl) _).setCell ⟨w.heap.size + 2, 2, none⟩ (.inr rfl) _
  have S3 := (unhide HS1).fr fx (by omega)
  obtain ⟨hZ, fz⟩ := S3.set (.int .i64 d.a.k) (.slice va d.a.its.length vc) (.slice none 0 0) (.int .i64 d.a.fn) (.int .i64 d.a.cap) (.bool d.a.shut)
  have hGw : Gw w d.a.its (.slice va d.a.its.length vc) (((w1.setCell ⟨w.heap.size + 2, 1, none⟩ (.slice va d.a.its.length vc)).setCell ⟨w.heap.size + 2, 2, none⟩ (.slice none 0 0)).setCells (w.heap.size + 1) 0 (sixL (.int .i64 d.a.k) (.slice va d.a.its.length vc) (.slice none 0 0) (.int .i64 d.a.fn) (.int .i64 d.a.cap) (.bool d.a.shut))) := by
    obtain ⟨g1, g2, g3⟩ := unhide HG
    have hz := unhide HZ
    refine ⟨(g1.fr fx (fun k hk e => ?_)).fr fz (fun k hk e => ?_), (((unhide HB).trans (g2.mono (by omega))).trans (fx.below (by omega) (fun k hk e => by omega))).trans (fz.below (by have := fx.size; omega) (fun k hk e => by omega)), fun k hk => ?_⟩
    · have := g3 k hk; omega
    · have := g3 k hk; omega
    · have := g3 k hk; omega
  show bodyPost Try.prog Try.f70 _ Exit.ret _ (((w1.setCell ⟨w.heap.size + 2, 1, none⟩ (.slice va d.a.its.length vc)).setCell ⟨w.heap.size + 2, 2, none⟩ (.slice none 0 0)).setCells (w.heap.size + 1) 0 (sixL (.int .i64 d.a.k) (.slice va d.a.its.length vc) (.slice none 0 0) (.int .i64 d.a.fn) (.int .i64 d.a.cap) (.bool d.a.shut)))
  clear S3 fz fx
  generalize ((w1.setCell ⟨w.heap.size + 2, 1, none⟩ (.slice va d.a.its.length vc)).setCell ⟨w.heap.size + 2, 2, none⟩ (.slice none 0 0)).setCells (w.heap.size + 1) 0 (sixL (.int .i64 d.a.k) (.slice va d.a.its.length vc) (.slice none 0 0) (.int .i64 d.a.fn) (.int .i64 d.a.cap) (.bool d.a.shut)) = W8 at *
  have z0 := hZ.1 0 (by omega)
  have z1 := hZ.1 1 (by omega)
  have z2 := hZ.1 2 (by omega)
  have z3 := hZ.1 3 (by omega)
  have z4 := hZ.1 4 (by omega)
  have z5 := hZ.1 5 (by omega)
  simp only [sixL, List.getElem_cons_zero, List.getElem_cons_succ] at z0 z1 z2 z3 z4 z5
  refine bodyPost_ret (v := .agg #[.int .i64 d.a.k, .slice va d.a.its.length vc, .slice none 0 0, .int .i64 d.a.fn, .int .i64 d.a.cap, .bool d.a.shut]) (by simp [results, Try.results70, go_sem, z0, z1, z2, z3, z4, z5]) rfl ?_
  exact ⟨_, rfl, hGw⟩
theorem Ro.six {w : World} {v : Value} {ds : List RD} (h : Ro w 6 v ds.length (rdF ds)) {i : Nat} {d : RD} (hd : ds[i]? = some d) :
    ∃ g off cap, v = .slice (some ⟨g, off, none⟩) ds.length cap ∧ ds.length ≤ cap ∧ cap ≤ maxLen ∧ g < w.heap.size ∧ ∀ j, j < 6 → w.cell? ⟨g, off + i * 6 + j, none⟩ = d.cells[j]? := by
  have hi := (List.getElem?_eq_some_iff.1 hd).1
  obtain ⟨g, off, cap, e, h1, h2, h3, h4⟩ := h.full (by omega)
  refine ⟨g, off, cap, e, h1, h2, h3, fun j hj => ?_⟩
  rw [Nat.add_assoc, h4 (i * 6 + j) (by omega)]
  exact rdF_at ds i d hd j hj
set_option maxRecDepth 100000 in
set_option maxHeartbeats 3200000 in
theorem robj_hit {w : World} {r : Nat} {bud sp : Int} {rv : Value} {ds : List RD} (H : Rh w r bud sp rv ds) {i : Nat} {d : RD} (hd : ds[i]? = some d) (hk : d.a.keys = []) (hN : d.a.its.length ≤ 8796093021952) (hL : ds.length ≤ 1800000000000) :
    Calls Try.prog 48 #[.pointer (some ⟨r, 0, none⟩), .int .i64 (i : Int)] w fun e w' => ∃ v1, e = .returned (.tuple #[.agg #[.int .i64 d.a.k, v1, .slice none 0 0, .int .i64 d.a.fn, .int .i64 d.a.cap, .bool d.a.shut], .bool true]) ∧ Gw w d.a.its v1 w' := by
  have hi := (List.getElem?_eq_some_iff.1 hd).1
  have hB : Below w.heap.size w (w.alloc (.cells #[.int .i64 0, .slice none 0 0, .slice none 0 0, .int .i64 0, .int .i64 0, .bool false] 56)) := (Below.refl _ _).alloc (Nat.le_refl _) _
  have hz : (w.alloc (.cells #[.int .i64 0, .slice none 0 0, .slice none 0 0, .int .i64 0, .int .i64 0, .bool false] 56)).heap.size = w.heap.size + 1 := by simp
  have H0 := H.below hB
  obtain ⟨g, off, cap, re, hc1, hc2, hgl, hcc⟩ := H0.row.six hd
  have hok := H0.ok d (List.mem_of_getElem? hd)
  have HC := hide (copyO_any hok hk hN)
  obtain ⟨ia, ic, ie, _⟩ := hok.items.shape
  obtain ⟨ka, kc, ke, _⟩ := hok.keys.shape
  have ke : d.kv = .slice ka 0 kc := by rw [ke, hk]; rfl
  have S0 := Six.new w (.int .i64 0) (.slice none 0 0) (.slice none 0 0) (.int .i64 0) (.int .i64 0) (.bool false) 56
  have r2 := H0.c2
  have hl := H0.rlt
  rw [re] at r2
  have c0 := hcc 0 (by omega)
  have c1 := hcc 1 (by omega)
  have c2 := hcc 2 (by omega)
  have c3 := hcc 3 (by omega)
  have c4 := hcc 4 (by omega)
  have c5 := hcc 5 (by omega)
  simp only [RD.cells, aoL, ie, ke, List.getElem?_cons_zero, List.getElem?_cons_succ, Nat.add_zero] at c0 c1 c2 c3 c4 c5
  rw [ie, ke] at HC
  have i0 : (0 : Int) ≤ (i : Int) := by omega
  have i1 : (i : Int) < (ds.length : Int) := by omega
  have HS := hide S0
  have HB := hide hB
  have HZ := hide hz
  clear H H0 hd hok hcc S0 hB hz
  go_enter Try.func48, Try.ntmps48
  go_wp2_with fail
  refine (unhide HC).mono ?_
  rintro e1 w1 ⟨v1, rfl, g1, g2, g3⟩
  obtain ⟨va, vc, ve, _⟩ := g1.shape
  subst ve
  have S1 := (unhide HS).fr (Fr.of_below (S := fun _ => False) g2) (fun e => e)
  have lx : w.heap.size < w1.heap.size := S1.lt
  have yf := S1.2
  have y0 := S1.1 0 (by omega)
  have y1 := S1.1 1 (by omega)
  have y2 := S1.1 2 (by omega)
  have y3 := S1.1 3 (by omega)
  have y4 := S1.1 4 (by omega)
  have y5 := S1.1 5 (by omega)
  simp only [sixL, List.getElem_cons_zero, List.getElem_cons_succ] at y0 y1 y2 y3 y4 y5
  obtain ⟨hZ, fz⟩ := S1.set (.int .i64 d.a.k) (.slice va d.a.its.length vc) (.slice none 0 0) (.int .i64 d.a.fn) (.int .i64 d.a.cap) (.bool d.a.shut)
  have hGw : Gw w d.a.its (.slice va d.a.its.length vc) (w1.setCells w.heap.size 0 (sixL (.int .i64 d.a.k) (.slice va d.a.its.length vc) (.slice none 0 0) (.int .i64 d.a.fn) (.int .i64 d.a.cap) (.bool d.a.shut))) := by
    have hz := unhide HZ
    refine ⟨g1.fr fz (fun k hk e => ?_), ((unhide HB).trans (g2.mono (by omega))).trans (fz.below (by omega) (fun k hk e => by omega)), fun k hk => ?_⟩
    · have := g3 k hk; omega
    · have := g3 k hk; omega
  have HGW := hide hGw
  have HZ8 := hide hZ
  clear g1 g2 g3 S1 fz hZ hGw
  go_wp2_with fail
  show bodyPost Try.prog Try.f48 _ Exit.ret _ (w1.setCells w.heap.size 0 (sixL (.int .i64 d.a.k) (.slice va d.a.its.length vc) (.slice none 0 0) (.int .i64 d.a.fn) (.int .i64 d.a.cap) (.bool d.a.shut)))
  have hZ := unhide HZ8
  have hGw := unhide HGW
  clear HZ8 HGW y0 y1 y2 y3 y4 y5 yf lx
  generalize w1.setCells w.heap.size 0 (sixL (.int .i64 d.a.k) (.slice va d.a.its.length vc) (.slice none 0 0) (.int .i64 d.a.fn) (.int .i64 d.a.cap) (.bool d.a.shut)) = W8 at *
  have z0 := hZ.1 0 (by omega)
  have z1 := hZ.1 1 (by omega)
  have z2 := hZ.1 2 (by omega)
  have z3 := hZ.1 3 (by omega)
  have z4 := hZ.1 4 (by omega)
  have z5 := hZ.1 5 (by omega)
  simp only [sixL, List.getElem_cons_zero, List.getElem_cons_succ] at z0 z1 z2 z3 z4 z5
  refine bodyPost_ret (v := .tuple #[.agg #[.int .i64 d.a.k, .slice va d.a.its.length vc, .slice none 0 0, .int .i64 d.a.fn, .int .i64 d.a.cap, .bool d.a.shut], .bool true]) (by simp [results, Try.results48, go_sem, z0, z1, z2, z3, z4, z5]) rfl ?_
  exact ⟨_, rfl, hGw⟩
set_option maxRecDepth 100000 in
set_option maxHeartbeats 3200000 in
theorem robj_miss {w : World} {r : Nat} {bud sp : Int} {rv : Value} {ds : List RD} (H : Rh w r bud sp rv ds) {n : Int} (hn : n < 0 ∨ (ds.length : Int) ≤ n) (hL : ds.length ≤ 1800000000000) :
    Calls Try.prog 48 #[.pointer (some ⟨r, 0, none⟩), .int .i64 n] w fun e w' => e = .returned (.tuple #[.agg #[.int .i64 0, .slice none 0 0, .slice none 0 0, .int .i64 0, .int .i64 0, .bool false], .bool false]) ∧ Below w.heap.size w w' := by
  have hB : Below w.heap.size w (w.alloc (.cells #[.int .i64 0, .slice none 0 0, .slice none 0 0, .int .i64 0, .int .i64 0, .bool false] 56)) := (Below.refl _ _).alloc (Nat.le_refl _) _
  have H0 := H.below hB
  obtain ⟨ra, rc, re, _⟩ := H0.row.shape
  have S0 := Six.new w (.int .i64 0) (.slice none 0 0) (.slice none 0 0) (.int .i64 0) (.int .i64 0) (.bool false) 56
  have r2 := H0.c2
  have hl := H0.rlt
  rw [re] at r2
  have yf := S0.2
  have y0 := S0.1 0 (by omega)
  have y1 := S0.1 1 (by omega)
  have y2 := S0.1 2 (by omega)
  have y3 := S0.1 3 (by omega)
  have y4 := S0.1 4 (by omega)
  have y5 := S0.1 5 (by omega)
  simp only [sixL, List.getElem_cons_zero, List.getElem_cons_succ] at y0 y1 y2 y3 y4 y5
  have HB := hide hB
  clear H H0 S0 hB
  by_cases h0 : n < 0
  · go_enter Try.func48, Try.ntmps48
    go_wp2_with fail
    refine bodyPost_ret (v := .tuple #[.agg #[.int .i64 0, .slice none 0 0, .slice none 0 0, .int .i64 0, .int .i64 0, .bool false], .bool false]) (by simp [results, Try.results48, go_sem, y0, y1, y2, y3, y4, y5]) rfl ?_
    exact ⟨rfl, unhide HB⟩
  · have h1 : (ds.length : Int) ≤ n := hn.resolve_left h0
    have h2 : ¬ n < (ds.length : Int) := by omega
    go_enter Try.func48, Try.ntmps48
    go_wp2_with fail
    refine bodyPost_ret (v := .tuple #[.agg #[.int .i64 0, .slice none 0 0, .slice none 0 0, .int .i64 0, .int .i64 0, .bool false], .bool false]) (by simp [results, Try.results48, go_sem, y0, y1, y2, y3, y4, y5]) rfl ?_
    exact ⟨rfl, unhide HB⟩
end Go.Proofs.Ytkpngfahnpidkaa
