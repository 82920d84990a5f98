/-
  objects: all that the program's heap holds; SameObjects.
-/
import Derived.Test.YtkpngfahnpidkaaMPObj
import Derived.Test.YtkpngfahnpidkaaMMake
import Derived.Test.YtkpngfahnpidkaaMSame
import Derived.Test.YtkpngfahnpidkaaMObject
namespace Go.Proofs.Ytkpngfahnpidkaa
open Go.RowKit
set_option linter.unusedVariables false
set_option linter.unusedSimpArgs false

/-- A row of objects that grows. -/
structure Rl (w wr : World) (v : Value) (ds : List RD) : Prop where
  row : Ro wr 6 v ds.length (rdF ds)
  ok : ∀ d, d ∈ ds → d.ok wr
  ap : ∀ d, d ∈ ds → ∀ k, d.mine k → v.ownBlock ≠ some k
  far : ∀ k, v.ownBlock = some k → w.heap.size ≤ k
  bel : Below w.heap.size w wr
theorem Rl.nil (w : World) : Rl w w (.slice none 0 0) [] := ⟨Ro.nil _ _, fun d hd => by simp at hd, fun d hd => by simp at hd, by simp [Value.ownBlock], Below.refl _ _⟩
theorem Rl.below {w wr w' : World} {v : Value} {ds : List RD} (h : Rl w wr v ds) (f : Below wr.heap.size wr w') : Rl w w' v ds :=
  ⟨h.row.fr (Fr.of_below (S := fun _ => False) f) (fun _ _ e => e), fun d hd => (h.ok d hd).keep (Fr.of_below (S := fun _ => False) f) (fun _ _ e => e), h.ap, h.far, h.bel.trans (f.mono h.bel.size)⟩
theorem Rl.push {w wr w' : World} {v v' : Value} {ds : List RD} {d : RD} (h : Rl w wr v ds) (hd : d.ok wr) (hdn : ∀ k, d.mine k → v.ownBlock ≠ some k) {X : Obj} (hg : (wr.alloc X).grownBy w' v.ownBlock) (hr : Ro w' 6 v' (ds.length + 1) (rdF ds ++ d.cells)) (hat : v'.ownBlock = v.ownBlock ∨ v'.ownBlock = some (wr.alloc X).heap.size) : Rl w w' v' (ds ++ [d]) := by
  have hs := h.bel.size
  have f : Fr (fun k => v.ownBlock = some k) wr w' := ((Fr.refl _ wr).alloc X).grown hg (fun k e => .inr e)
  have hok : ∀ x, x ∈ ds ++ [d] → x.ok wr ∧ ∀ k, x.mine k → v.ownBlock ≠ some k := fun x hx => by
    rcases List.mem_append.1 hx with q | q
    · exact ⟨h.ok x q, h.ap x q⟩
    · simp at q; subst q; exact ⟨hd, hdn⟩
  refine ⟨by rw [rdF_append, rdF_one, List.length_append]; exact hr, fun x hx => (hok x hx).1.keep f (fun k hk e => (hok x hx).2 k hk e), fun x hx k hk e => ?_, fun k hk => ?_, h.bel.trans (f.below hs (fun k hk e => by have := h.far k e; omega))⟩
  · rcases hat with q | q
    · exact (hok x hx).2 k hk (q ▸ e)
    · rw [q] at e; cases e
      have h9 := (hok x hx).1.lt _ hk
      have h8 : (wr.alloc X).heap.size = wr.heap.size + 1 := by simp
      omega
  · rcases hat with q | q
    · exact h.far k (q ▸ hk)
    · rw [q] at hk; cases hk; simp; omega
set_option maxRecDepth 100000 in
set_option maxHeartbeats 3200000 in
theorem objects_any {w : World} {h : Nat} {bud sp : Int} {ov : Value} {os : List OD} (H : Hp w h bud sp ov os) (hall : ∀ o, o ∈ os → o.keys = [] ∧ o.its.length ≤ 4096) (hL : os.length ≤ 1700000000000) :
    Calls Try.prog 28 #[.pointer (some ⟨h, 0, none⟩), .int .i64 (os.length : Int)] w fun e w' => ∃ v ds, e = .returned v ∧ Rl w w' v ds ∧ ds.map (·.a) = os.map OD.ao := by
  have HH := hide H
  have HA := hide hall
  obtain ⟨L, eL⟩ : ∃ L, Hid (os.length = L) := ⟨_, rfl⟩
  rw [unhide eL] at hL ⊢
  clear H hall
  go_enter Try.func28, Try.ntmps28
  go_wp2_with fail
  go_loopg [5, 6] L (fun g t5 t6 wr => ∃ (i : Nat) (v : Value) (ds : List RD), Hid (i + g = L) ∧ t5 = v ∧ t6 = .int .i64 (i : Int) ∧ Hid (Rl w wr v ds ∧ ds.map (·.a) = (os.take i).map OD.ao ∧ ds.length = i))
  case atStart => exact ⟨0, _, [], by unfold Hid; omega, rfl, rfl, Rl.nil w, by simp, rfl⟩
  case round =>
    obtain ⟨i, v, ds, hi, rfl, rfl, hG⟩ := hrel
    by_cases hlt : i < L
    · have hil : i < os.length := by rw [unhide eL]; exact hlt
      obtain ⟨o, ho⟩ : ∃ o, os[i]? = some o := ⟨_, List.getElem?_eq_getElem hil⟩
      obtain ⟨k1, k2⟩ := unhide HA o (List.mem_of_getElem? ho)
      have hB := (unhide hG).1.bel
      have HC := hide (object_hit ((unhide HH).below hB) ho k2 k1)
      have d1 : (i : Int) < (L : Int) := by omega
      have HG := hG
      clear hB
      go_wp2_with fail
      refine (unhide HC).mono ?_
      rintro e1 w1 ⟨v1, v2, rfl, q, b1⟩
      obtain ⟨va, vc, ve, _⟩ := q.1.shape
      obtain ⟨ua, uc, ue, _⟩ := q.2.1.shape
      rw [ve, ue] at q ⊢
      obtain ⟨r1, r2, r3⟩ := unhide hG
      have bA : Below w1.heap.size w1 (w1.alloc (.cells #[.int .i64 o.ao.k, .slice va o.ao.its.length vc, .slice ua o.ao.keys.length uc, .int .i64 o.ao.fn, .int .i64 o.ao.cap, .bool o.ao.shut] 56)) := (Below.refl _ _).alloc (Nat.le_refl _) _
      have R1 : Rl w (w1.alloc (.cells #[.int .i64 o.ao.k, .slice va o.ao.its.length vc, .slice ua o.ao.keys.length uc, .int .i64 o.ao.fn, .int .i64 o.ao.cap, .bool o.ao.shut] 56)) u5 ds := (r1.below b1).below bA
      have dk : (RD.mk o.ao (.slice va o.ao.its.length vc) (.slice ua o.ao.keys.length uc)).ok (w1.alloc (.cells #[.int .i64 o.ao.k, .slice va o.ao.its.length vc, .slice ua o.ao.keys.length uc, .int .i64 o.ao.fn, .int .i64 o.ao.cap, .bool o.ao.shut] 56)) := ⟨q.1.fr (Fr.of_below (S := fun _ => False) bA) (fun _ _ e => e), q.2.1.fr (Fr.of_below (S := fun _ => False) bA) (fun _ _ e => e)⟩
      have dn : ∀ k, (RD.mk o.ao (.slice va o.ao.its.length vc) (.slice ua o.ao.keys.length uc)).mine k → u5.ownBlock ≠ some k := fun k hk e => by
        have h1 := q.2.2 k hk
        have h2 := r1.row.lt k e
        omega
      have hz1 : (w1.alloc (.cells #[.int .i64 o.ao.k, .slice va o.ao.its.length vc, .slice ua o.ao.keys.length uc, .int .i64 o.ao.fn, .int .i64 o.ao.cap, .bool o.ao.shut] 56)).heap.size = w1.heap.size + 1 := by simp
      have HRo : Hid (Ro ((w1.alloc (.cells #[.int .i64 o.ao.k, .slice va o.ao.its.length vc, .slice ua o.ao.keys.length uc, .int .i64 o.ao.fn, .int .i64 o.ao.cap, .bool o.ao.shut] 56)).alloc (.cells #[.int .i64 o.ao.k, .slice va o.ao.its.length vc, .slice ua o.ao.keys.length uc, .int .i64 o.ao.fn, .int .i64 o.ao.cap, .bool o.ao.shut] 56)) 6 u5 ds.length (rdF ds)) := R1.row.fr ((Fr.refl (fun _ => False) _).alloc _) (fun _ _ e => e)
      have HS6 : Hid (∀ j u, (RD.mk o.ao (.slice va o.ao.its.length vc) (.slice ua o.ao.keys.length uc)).cells[j]? = some u → ((w1.alloc (.cells #[.int .i64 o.ao.k, .slice va o.ao.its.length vc, .slice ua o.ao.keys.length uc, .int .i64 o.ao.fn, .int .i64 o.ao.cap, .bool o.ao.shut] 56)).alloc (.cells #[.int .i64 o.ao.k, .slice va o.ao.its.length vc, .slice ua o.ao.keys.length uc, .int .i64 o.ao.fn, .int .i64 o.ao.cap, .bool o.ao.shut] 56)).cell? ((⟨w1.heap.size + 1, 0, none⟩ : Addr).add j) = some u) := by
        have := six_new' (w1.alloc (.cells #[.int .i64 o.ao.k, .slice va o.ao.its.length vc, .slice ua o.ao.keys.length uc, .int .i64 o.ao.fn, .int .i64 o.ao.cap, .bool o.ao.shut] 56)) (.int .i64 o.ao.k) (.slice va o.ao.its.length vc) (.slice ua o.ao.keys.length uc) (.int .i64 o.ao.fn) (.int .i64 o.ao.cap) (.bool o.ao.shut) 56
        rw [hz1] at this
        exact this
      have HP := hide (And.intro R1 (And.intro dk (And.intro dn hz1)))
      have HM : Hid (ds.map (·.a) = (os.take i).map OD.ao ∧ ds.length = i) := ⟨r2, r3⟩
      have hdl : ds.length ≤ 1700000000000 := by omega
      have HO := hide ho
      clear q b1 ve ue r1 r2 R1 dk dn bA hz1 hG HG HC
      go_wp2_with (first | (at_builtin; refine wpList_appD rfl _ _ rfl _ ds rfl (unhide HRo) ⟨w1.heap.size + 1, 0, none⟩ 1 (RD.mk o.ao (.slice va o.ao.its.length vc) (.slice ua o.ao.keys.length uc)) rfl (unhide HS6) ⟨rfl, rfl⟩ hdl ?_))
      intro v' w5 hr5 hg5 hat5
      obtain ⟨R1, dk, dn, hz1⟩ := unhide HP
      have R5 := R1.push dk dn hg5 (by rw [(unhide HM).2]; exact hr5) (by simpa using hat5)
      have hm : (ds ++ [(RD.mk o.ao (.slice va o.ao.its.length vc) (.slice ua o.ao.keys.length uc))]).map (·.a) = (os.take (i + 1)).map OD.ao := by
        rw [List.take_add_one, unhide HO, List.map_append, List.map_append, (unhide HM).1]
        rfl
      have HR5 := hide (And.intro R5 (And.intro hm (show (ds ++ [(RD.mk o.ao (.slice va o.ao.its.length vc) (.slice ua o.ao.keys.length uc))]).length = i + 1 by rw [List.length_append, (unhide HM).2]; rfl)))
      clear R1 dk dn hz1 R5 hm hr5 hg5 hat5
      go_wp2_with fail
      go_roundg (gk - 1)
      case measure => have := unhide hi; omega
      case rel => exact ⟨i + 1, v', ds ++ [(RD.mk o.ao (.slice va o.ao.its.length vc) (.slice ua o.ao.keys.length uc))], by have := unhide hi; unfold Hid; omega, rfl, by go_num, HR5⟩
    · have hiL : i = L := by have := unhide hi; omega
      subst hiL
      obtain ⟨r1, r2, r3⟩ := unhide hG
      rw [List.take_of_length_le (by rw [unhide eL]; exact Nat.le_refl _)] at r2
      have HR := hide (And.intro r1 r2)
      clear r1 r2 r3 hG
      go_wp2_with fail
      go_ret
      exact ⟨_, _, rfl, unhide HR⟩
set_option maxRecDepth 100000 in
set_option maxHeartbeats 3200000 in
theorem sameOs_any {w : World} {u v : Value} {ds es : List RD} (hu : Ro w 6 u ds.length (rdF ds)) (hv : Ro w 6 v es.length (rdF es)) (hd : ∀ d, d ∈ ds → d.ok w) (he : ∀ d, d ∈ es → d.ok w) (hag : ds.map (·.a) = es.map (·.a)) (hk : ∀ d, d ∈ ds → d.a.keys = []) :
    Calls Try.prog 27 #[u, v] w fun e w' => e = .returned (.bool true) ∧ Below w.heap.size w w' := by
  have hlen : ds.length = es.length := by have := congrArg List.length hag; simpa using this
  have HU := hide (fun i d (q : ds[i]? = some d) => hu.six q)
  have HV := hide (fun i d (q : es[i]? = some d) => hv.six q)
  obtain ⟨ua, uc, rfl, _, um⟩ := hu.shape
  obtain ⟨va, vc, rfl, _⟩ := hv.shape
  have HD := hide hd
  have HE := hide he
  have HAG := hide hag
  have HK := hide hk
  obtain ⟨L, hL⟩ : ∃ L, Hid (ds.length = L) := ⟨_, rfl⟩
  have hL2 : Hid (es.length = L) := by rw [← hlen]; exact hL
  have hLm : L ≤ maxLen := by rw [← unhide hL]; omega
  unfold maxLen at hLm
  rw [unhide hL] at HU
  rw [unhide hL2] at HV
  rw [unhide hL, unhide hL2]
  clear hu hv um hd he hag hk hlen
  have d0 : (((L : Nat) : Int) != (L : Int)) = false := by simp
  go_enter Try.func27, Try.ntmps27
  go_wp2_with fail
  go_loopg [5] L (fun gg t5 wr => ∃ (i : Nat), Hid (i + gg = L) ∧ t5 = .int .i64 (i : Int) ∧ Hid (Below w.heap.size w wr))
  case atStart => exact ⟨0, by unfold Hid; omega, rfl, Below.refl _ _⟩
  case round =>
    obtain ⟨i, hi, rfl, hB⟩ := hrel
    by_cases hlt : i < L
    · have hil : i < ds.length := by rw [unhide hL]; exact hlt
      have hil2 : i < es.length := by rw [unhide hL2]; exact hlt
      obtain ⟨d, qd⟩ : ∃ d, ds[i]? = some d := ⟨_, List.getElem?_eq_getElem hil⟩
      obtain ⟨f, qe⟩ : ∃ d, es[i]? = some d := ⟨_, List.getElem?_eq_getElem hil2⟩
      have hda : f.a = d.a := by
        have := congrArg (fun q => q[i]?) (unhide HAG)
        simp only [List.getElem?_map, qd, qe, Option.map_some] at this
        exact (Option.some.inj this).symm
      obtain ⟨b, so, c', e, _, _, hb, cb⟩ := unhide HU i d qd
      cases e
      obtain ⟨g, off, cap, e, _, _, hg, cg⟩ := unhide HV i f qe
      cases e
      have okd := unhide HD d (List.mem_of_getElem? qd)
      have okf := unhide HE f (List.mem_of_getElem? qe)
      have kd := unhide HK d (List.mem_of_getElem? qd)
      obtain ⟨ia, ic, ie, _⟩ := okd.items.shape
      obtain ⟨ka, kc, ke, _⟩ := okd.keys.shape
      obtain ⟨ja, jc, je, _⟩ := okf.items.shape
      obtain ⟨la, lc, le, _⟩ := okf.keys.shape
      rw [kd] at ke
      rw [hda, kd] at le
      rw [hda] at je
      have hi1 := okd.items
      have hj1 := okf.items
      rw [hda, je] at hj1
      rw [ie] at hi1
      have fB := Fr.of_below (S := fun _ => False) (unhide hB)
      have HC : Hid (∀ W, Fr (fun _ => False) wr W → Calls Try.prog 46 #[.agg #[.int .i64 d.a.k, .slice ia d.a.its.length ic, .slice ka 0 kc, .int .i64 d.a.fn, .int .i64 d.a.cap, .bool d.a.shut], .agg #[.int .i64 d.a.k, .slice ja d.a.its.length jc, .slice la 0 lc, .int .i64 d.a.fn, .int .i64 d.a.cap, .bool d.a.shut]] W fun e w' => e = .returned (.bool true) ∧ Below W.heap.size W w') := fun W fW => sameO_any ((hi1.fr fB (fun _ _ e => e)).fr fW (fun _ _ e => e)) ((hj1.fr fB (fun _ _ e => e)).fr fW (fun _ _ e => e))
      have X : ∀ j, j < 6 → wr.cell? ⟨b, so + i * 6 + j, none⟩ = d.cells[j]? := fun j hj => ((unhide hB).cell (p := ⟨b, so + i * 6 + j, none⟩) hb).trans (cb j hj)
      have Y : ∀ j, j < 6 → wr.cell? ⟨g, off + i * 6 + j, none⟩ = f.cells[j]? := fun j hj => ((unhide hB).cell (p := ⟨g, off + i * 6 + j, none⟩) hg).trans (cg j hj)
      have x0 := X 0 (by omega)
      have x1 := X 1 (by omega)
      have x2 := X 2 (by omega)
      have x3 := X 3 (by omega)
      have x4 := X 4 (by omega)
      have x5 := X 5 (by omega)
      have y0 := Y 0 (by omega)
      have y1 := Y 1 (by omega)
      have y2 := Y 2 (by omega)
      have y3 := Y 3 (by omega)
      have y4 := Y 4 (by omega)
      have y5 := Y 5 (by omega)
      simp only [RD.cells, aoL, ie, ke, List.getElem?_cons_zero, List.getElem?_cons_succ, Nat.add_zero, List.length_nil] at x0 x1 x2 x3 x4 x5
      simp only [RD.cells, aoL, je, le, hda, List.getElem?_cons_zero, List.getElem?_cons_succ, Nat.add_zero, List.length_nil] at y0 y1 y2 y3 y4 y5
      have hbr := Nat.lt_of_lt_of_le hb (unhide hB).size
      have hgr := Nat.lt_of_lt_of_le hg (unhide hB).size
      have i0 : (0 : Int) ≤ (i : Int) := by omega
      have i1 : (i : Int) < (L : Int) := by omega
      clear X Y cb cg okd okf hi1 hj1 fB ie ke je le qd qe hda kd hb hg
      have hS : wr.cell? ⟨b, so + i * 6, none⟩ = some (.int .i64 d.a.k) ∧ wr.cell? ⟨b, so + i * 6 + 1, none⟩ = some (.slice ia d.a.its.length ic) ∧ wr.cell? ⟨b, so + i * 6 + 2, none⟩ = some (.slice ka 0 kc) ∧ wr.cell? ⟨b, so + i * 6 + 3, none⟩ = some (.int .i64 d.a.fn) ∧ wr.cell? ⟨b, so + i * 6 + 4, none⟩ = some (.int .i64 d.a.cap) ∧ wr.cell? ⟨b, so + i * 6 + 5, none⟩ = some (.bool d.a.shut) ∧ wr.cell? ⟨g, off + i * 6, none⟩ = some (.int .i64 d.a.k) ∧ wr.cell? ⟨g, off + i * 6 + 1, none⟩ = some (.slice ja d.a.its.length jc) ∧ wr.cell? ⟨g, off + i * 6 + 2, none⟩ = some (.slice la 0 lc) ∧ wr.cell? ⟨g, off + i * 6 + 3, none⟩ = some (.int .i64 d.a.fn) ∧ wr.cell? ⟨g, off + i * 6 + 4, none⟩ = some (.int .i64 d.a.cap) ∧ wr.cell? ⟨g, off + i * 6 + 5, none⟩ = some (.bool d.a.shut) := ⟨x0, x1, x2, x3, x4, x5, y0, y1, y2, y3, y4, y5⟩
      clear x0 x1 x2 x3 x4 x5 y0 y1 y2 y3 y4 y5
      go_wp2_with fail
      refine wp_region_held_drew (S := (fun wx => wx.cell? ⟨b, so + i * 6, none⟩ = some (.int .i64 d.a.k) ∧ wx.cell? ⟨b, so + i * 6 + 1, none⟩ = some (.slice ia d.a.its.length ic) ∧ wx.cell? ⟨b, so + i * 6 + 2, none⟩ = some (.slice ka 0 kc) ∧ wx.cell? ⟨b, so + i * 6 + 3, none⟩ = some (.int .i64 d.a.fn) ∧ wx.cell? ⟨b, so + i * 6 + 4, none⟩ = some (.int .i64 d.a.cap) ∧ wx.cell? ⟨b, so + i * 6 + 5, none⟩ = some (.bool d.a.shut) ∧ wx.cell? ⟨g, off + i * 6, none⟩ = some (.int .i64 d.a.k) ∧ wx.cell? ⟨g, off + i * 6 + 1, none⟩ = some (.slice ja d.a.its.length jc) ∧ wx.cell? ⟨g, off + i * 6 + 2, none⟩ = some (.slice la 0 lc) ∧ wx.cell? ⟨g, off + i * 6 + 3, none⟩ = some (.int .i64 d.a.fn) ∧ wx.cell? ⟨g, off + i * 6 + 4, none⟩ = some (.int .i64 d.a.cap) ∧ wx.cell? ⟨g, off + i * 6 + 5, none⟩ = some (.bool d.a.shut))) (by kernel_rfl) hS (fun hHeld => ?_)
      refine wpAnyH_take (i := 0) (oi := _) (v := .slice (some ⟨b, so, none⟩) L uc) rfl (by kernel_rfl) (by kernel_rfl) (by kernel_rfl) (fun _ _ _ h => h) (Or.inl ⟨by rfl, (by intro w hSw; go_simp)⟩) (by assumption) ?_
      refine wpAnyH_take (i := 1) (oi := _) (v := .int .i64 (i : Int)) rfl (by kernel_rfl) (by kernel_rfl) (by kernel_rfl) (fun _ _ _ h => h) (Or.inl ⟨by rfl, (by intro w hSw; go_simp)⟩) (by assumption) ?_
      refine wpAnyH_take (i := 2) (oi := _) (v := .pointer (some ⟨b, so + i * 6, none⟩)) rfl (by kernel_rfl) (by kernel_rfl) (by kernel_rfl) (fun _ _ _ h => h) (Or.inl ⟨by rfl, (by intro w hSw; go_simp)⟩) (by assumption) ?_
      refine wpAnyH_take (i := 3) (oi := _) (v := .agg #[.int .i64 d.a.k, .slice ia d.a.its.length ic, .slice ka 0 kc, .int .i64 d.a.fn, .int .i64 d.a.cap, .bool d.a.shut]) rfl (by kernel_rfl) (by kernel_rfl) (by kernel_rfl) (fun _ _ _ h => h) (Or.inl ⟨by rfl, (by intro w hSw; obtain ⟨hs0, hs1, hs2, hs3, hs4, hs5, hs6, hs7, hs8, hs9, hs10, hs11⟩ := hSw; go_simp)⟩) (by assumption) ?_
      refine wpAnyH_take (i := 4) (oi := _) (v := .slice (some ⟨g, off, none⟩) L vc) rfl (by kernel_rfl) (by kernel_rfl) (by kernel_rfl) (fun _ _ _ h => h) (Or.inl ⟨by rfl, (by intro w hSw; go_simp)⟩) (by assumption) ?_
      refine wpAnyH_take (i := 5) (oi := _) (v := .int .i64 (i : Int)) rfl (by kernel_rfl) (by kernel_rfl) (by kernel_rfl) (fun _ _ _ h => h) (Or.inl ⟨by rfl, (by intro w hSw; go_simp)⟩) (by assumption) ?_
      refine wpAnyH_take (i := 6) (oi := _) (v := .pointer (some ⟨g, off + i * 6, none⟩)) rfl (by kernel_rfl) (by kernel_rfl) (by kernel_rfl) (fun _ _ _ h => h) (Or.inl ⟨by rfl, (by intro w hSw; go_simp)⟩) (by assumption) ?_
      refine wpAnyH_take (i := 7) (oi := _) (v := .agg #[.int .i64 d.a.k, .slice ja d.a.its.length jc, .slice la 0 lc, .int .i64 d.a.fn, .int .i64 d.a.cap, .bool d.a.shut]) rfl (by kernel_rfl) (by kernel_rfl) (by kernel_rfl) (fun _ _ _ h => h) (Or.inl ⟨by rfl, (by intro w hSw; obtain ⟨hs0, hs1, hs2, hs3, hs4, hs5, hs6, hs7, hs8, hs9, hs10, hs11⟩ := hSw; go_simp)⟩) (by assumption) ?_
      go_simp
      refine wpAnyH_ready (rs := [8]) (by kernel_rfl) (by simp) ?_
      refine AllReadyH.cons (o := _) rfl (fun K hK => ?_) AllReadyH.nil
      go_simp
      refine (unhide HC _ ((Fr.refl (fun _ => False) wr).drew)).mono ?_
      rintro e1 w1 ⟨rfl, hb1⟩
      have hB2 := hide ((unhide hB).trans (((Below.refl _ wr).drew.trans hb1).mono (unhide hB).size))
      have S1 : w1.cell? ⟨b, so + i * 6, none⟩ = some (.int .i64 d.a.k) ∧ w1.cell? ⟨b, so + i * 6 + 1, none⟩ = some (.slice ia d.a.its.length ic) ∧ w1.cell? ⟨b, so + i * 6 + 2, none⟩ = some (.slice ka 0 kc) ∧ w1.cell? ⟨b, so + i * 6 + 3, none⟩ = some (.int .i64 d.a.fn) ∧ w1.cell? ⟨b, so + i * 6 + 4, none⟩ = some (.int .i64 d.a.cap) ∧ w1.cell? ⟨b, so + i * 6 + 5, none⟩ = some (.bool d.a.shut) ∧ w1.cell? ⟨g, off + i * 6, none⟩ = some (.int .i64 d.a.k) ∧ w1.cell? ⟨g, off + i * 6 + 1, none⟩ = some (.slice ja d.a.its.length jc) ∧ w1.cell? ⟨g, off + i * 6 + 2, none⟩ = some (.slice la 0 lc) ∧ w1.cell? ⟨g, off + i * 6 + 3, none⟩ = some (.int .i64 d.a.fn) ∧ w1.cell? ⟨g, off + i * 6 + 4, none⟩ = some (.int .i64 d.a.cap) ∧ w1.cell? ⟨g, off + i * 6 + 5, none⟩ = some (.bool d.a.shut) := by
        have hb2 : Below wr.heap.size wr w1 := (Below.refl _ wr).drew.trans hb1
        obtain ⟨hs0, hs1, hs2, hs3, hs4, hs5, hs6, hs7, hs8, hs9, hs10, hs11⟩ := hS
        exact ⟨(hb2.cell (p := ⟨b, so + i * 6, none⟩) hbr).trans hs0, (hb2.cell (p := ⟨b, so + i * 6 + 1, none⟩) hbr).trans hs1, (hb2.cell (p := ⟨b, so + i * 6 + 2, none⟩) hbr).trans hs2, (hb2.cell (p := ⟨b, so + i * 6 + 3, none⟩) hbr).trans hs3, (hb2.cell (p := ⟨b, so + i * 6 + 4, none⟩) hbr).trans hs4, (hb2.cell (p := ⟨b, so + i * 6 + 5, none⟩) hbr).trans hs5, (hb2.cell (p := ⟨g, off + i * 6, none⟩) hgr).trans hs6, (hb2.cell (p := ⟨g, off + i * 6 + 1, none⟩) hgr).trans hs7, (hb2.cell (p := ⟨g, off + i * 6 + 2, none⟩) hgr).trans hs8, (hb2.cell (p := ⟨g, off + i * 6 + 3, none⟩) hgr).trans hs9, (hb2.cell (p := ⟨g, off + i * 6 + 4, none⟩) hgr).trans hs10, (hb2.cell (p := ⟨g, off + i * 6 + 5, none⟩) hgr).trans hs11⟩
      go_simp
      refine hK.out _ _ S1 (fun hHeld1 => ?_)
      clear hK K
      refine wpAnyH_take (i := 9) (oi := _) (v := .bool false) rfl (by kernel_rfl) (by kernel_rfl) (by kernel_rfl) (fun _ _ _ h => h) (Or.inl ⟨by rfl, (by intro w hSw; go_simp)⟩) (by assumption) ?_
      refine wpAnyH_done (by kernel_rfl) ?_ _
      clear hHeld hHeld1 hS S1 hb1
      go_wp2_with fail
      go_roundg (gk - 1)
      case measure => have := unhide hi; omega
      case rel => exact ⟨i + 1, by have := unhide hi; unfold Hid; omega, by go_num, hB2⟩
    · have hiL : i = L := by have := unhide hi; omega
      subst hiL
      go_wp2_with fail
      go_ret
      exact ⟨rfl, unhide hB⟩
end Go.Proofs.Ytkpngfahnpidkaa
