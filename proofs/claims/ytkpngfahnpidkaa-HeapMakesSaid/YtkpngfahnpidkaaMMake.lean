/-
  The document's heap: Object, make, Array, Record, Bound, Chan.
-/
import Derived.Test.YtkpngfahnpidkaaMCopy
import Derived.Test.YtkpngfahnpidkaaMKinds
namespace Go.Proofs.Ytkpngfahnpidkaa
open Go.RowKit
set_option linter.unusedVariables false
set_option linter.unusedSimpArgs false

theorem six_new' (w : World) (x0 x1 x2 x3 x4 x5 : Value) (e : TypeId) : ∀ j z, [x0, x1, x2, x3, x4, x5][j]? = some z → (w.alloc (.cells #[x0, x1, x2, x3, x4, x5] e)).cell? ((⟨w.heap.size, 0, none⟩ : Addr).add j) = some z := fun j z hz => by
  have h := Six.new w x0 x1 x2 x3 x4 x5 e
  have hj : j < 6 := (List.getElem?_eq_some_iff.1 hz).1
  rw [Go.WideShapes.add_plain, Nat.zero_add, h.1 j hj, ← hz]
  exact (List.getElem?_eq_getElem hj).symm
theorem info56 : Option.map (fun i => (i.zero, i.size, i.bytes)) (Try.prog.info? 56) = some (some (.agg #[.int .i64 0, .slice none 0 0, .slice none 0 0, .int .i64 0, .int .i64 0, .bool false]), 6, 80) := by kernel_rfl
/-- append of one object. -/
theorem wpList_appD {w : World} {ops : Array Oper} {rest : List Oper} {o : Oper} {a : Act} {Q : Exit → Act → World → Prop}
    (hg : o.guard = none) (s x : Operand) (hop : o.op = Op.call { callee := Callee.builtin Builtin.append, args := #[s, x], argTypes := #[65, 65] })
    (v : Value) (ds : List RD) (hs : a.eval s = v) (hr : Ro w 6 v ds.length (rdF ds)) (ad : Addr) (c : Nat) (d : RD) (hx : a.eval x = .slice (some ad) 1 c) (hc : ∀ j u, d.cells[j]? = some u → w.cell? (ad.add j) = some u)
    (h1c : d.iv.oneCell' = true ∧ d.kv.oneCell' = true) (hN : ds.length ≤ 1700000000000)
    (hK : ∀ v' w', Ro w' 6 v' (ds.length + 1) (rdF ds ++ d.cells) → w.grownBy w' v.ownBlock → (v'.ownBlock = v.ownBlock ∨ v'.ownBlock = some w.heap.size) → wpList Try.prog ops Q rest (a.put o.dst v') w') :
    wpList Try.prog ops Q (o :: rest) a w := by
  obtain ⟨i0, hi0, hz0, hz1, hz2⟩ := info_parts info56
  exact wpList_app hg s x 65 hop 56 i0 _ 6 80 Try.underlying65 hi0 hz0 hz1 hz2 rfl (by decide) v ds.length (rdF ds) hs hr ad 1 c d.cells hx rfl hc (by
    intro u hu
    simp only [RD.cells, aoL, List.mem_cons, List.not_mem_nil, or_false] at hu
    rcases hu with rfl | rfl | rfl | rfl | rfl | rfl
    · rfl
    · exact h1c.1
    · exact h1c.2
    · rfl
    · rfl
    · rfl) (by omega) (by unfold maxLen; omega) (by omega) hK
theorem Ro.one {w : World} {sz n : Nat} {v : Value} {xs : List Value} (h : Ro w sz v n xs) : v.oneCell' = true := by
  obtain ⟨a, cap, rfl, _⟩ := h.shape
  rfl
theorem step_appD {w : World} {ops : Array Oper} {o : Oper} {a : Act} {K : Act → World → Prop} {Q : Exit → Act → World → Prop} {E : Prop} (hgd : o.guard = none) (s x : Operand)
    (ho : o.op = .call { callee := .builtin .append, args := #[s, x], argTypes := #[65, 65] }) (v : Value) (ds : List RD) (hs : a.eval s = v) (hr : Ro w 6 v ds.length (rdF ds)) (ad : Addr) (c : Nat) (d : RD) (hx : a.eval x = .slice (some ad) 1 c)
    (hnews : ∀ j u, d.cells[j]? = some u → w.cell? (ad.add j) = some u) (h1c : ∀ u ∈ d.cells, u.oneCell' = true) (hN : ds.length ≤ 1700000000000)
    (h : ∀ v' w', Ro w' 6 v' (ds.length + 1) (rdF ds ++ d.cells) → w.grownBy w' v.ownBlock → (v'.ownBlock = v.ownBlock ∨ v'.ownBlock = some w.heap.size) → K (a.put o.dst v') w') :
    if Region.wanted o (yielded ops a.tmps) = true then Oper.wp Try.prog o a w K Q else E := by
  rw [if_pos (by simp [Region.wanted, hgd])]
  obtain ⟨i0, hi0, hz0, hz1, hz2⟩ := info_parts info56
  obtain ⟨v', w', hrun, k2, k3, k5⟩ := Ro.app (P := Try.prog) 65 o.type 56 i0 _ 6 80 Try.underlying65 hi0 hz0 hz1 hz2 rfl (by decide) hr ad 1 c d.cells rfl hnews h1c (by omega) (by unfold maxLen; omega) (by omega)
  unfold Oper.wp
  simp [execOp, ho, resolve, invoke, builtin, hs, hx, hrun, Result.andThen]
  exact h v' w' k2 k3 k5
set_option maxRecDepth 100000 in
set_option maxHeartbeats 3200000 in
theorem rmake_ok {w : World} {r : Nat} {bud sp : Int} {rv : Value} {ds : List RD} (H : Rh w r bud sp rv ds) (hb : 0 ≤ bud ∧ bud < 9223372036854775808) (hs : 0 ≤ sp ∧ sp < 9223372036854775808) (cost : Int) (hr : room bud sp cost = true) (d : RD) (hok : d.ok w) (hne : ∀ k, d.mine k → k ≠ r ∧ rv.ownBlock ≠ some k) (hL : ds.length ≤ 1700000000000) :
    Calls Try.prog 72 #[.pointer (some ⟨r, 0, none⟩), .bool true, .int .i64 cost, .agg #[.int .i64 d.a.k, d.iv, d.kv, .int .i64 d.a.fn, .int .i64 d.a.cap, .bool d.a.shut]] w fun e w' => e = .returned (.tuple #[.agg #[.int .i64 d.a.k, .int .i64 (ds.length : Int)], .bool true]) ∧
      ∃ rv', Rh w' r bud (sp + cost) rv' (ds ++ [d]) ∧ Fr (Rfs r rv ds) w w' ∧ ∀ k, Rfs r rv' (ds ++ [d]) k → Rfs r rv ds k ∨ d.mine k ∨ w.heap.size ≤ k := by
  have e2 : 0 ≤ cost ∧ sp ≤ bud ∧ cost ≤ bud - sp := by simpa [room, and_assoc] using hr
  have HO := hide hok
  have HH := hide H
  have HN := hide hne
  obtain ⟨ia, ic, ie, _⟩ := hok.items.shape
  obtain ⟨ka, kc, ke, _⟩ := hok.keys.shape
  clear H hok hne
  have S0 : Six ((w.alloc (.cells #[.int .i64 d.a.k, .slice ia d.a.its.length ic, .slice ka d.a.keys.length kc, .int .i64 d.a.fn, .int .i64 d.a.cap, .bool d.a.shut] 56)).alloc (.cells #[.int .i64 0, .int .i64 0] 33)) w.heap.size (.int .i64 d.a.k) (.slice ia d.a.its.length ic) (.slice ka d.a.keys.length kc) (.int .i64 d.a.fn) (.int .i64 d.a.cap) (.bool d.a.shut) := (Six.new w (.int .i64 d.a.k) (.slice ia d.a.its.length ic) (.slice ka d.a.keys.length kc) (.int .i64 d.a.fn) (.int .i64 d.a.cap) (.bool d.a.shut) 56).fr ((Fr.refl (fun _ => False) _).alloc (.cells #[.int .i64 0, .int .i64 0] 33)) (fun e => e)
  have hB : Below w.heap.size w ((w.alloc (.cells #[.int .i64 d.a.k, .slice ia d.a.its.length ic, .slice ka d.a.keys.length kc, .int .i64 d.a.fn, .int .i64 d.a.cap, .bool d.a.shut] 56)).alloc (.cells #[.int .i64 0, .int .i64 0] 33)) := ((Below.refl _ _).alloc (Nat.le_refl _) _).alloc (by simp) _
  have hz0 : ((w.alloc (.cells #[.int .i64 d.a.k, .slice ia d.a.its.length ic, .slice ka d.a.keys.length kc, .int .i64 d.a.fn, .int .i64 d.a.cap, .bool d.a.shut] 56)).alloc (.cells #[.int .i64 0, .int .i64 0] 33)).heap.size = w.heap.size + 2 := by simp
  have hz1 : (w.alloc (.cells #[.int .i64 d.a.k, .slice ia d.a.its.length ic, .slice ka d.a.keys.length kc, .int .i64 d.a.fn, .int .i64 d.a.cap, .bool d.a.shut] 56)).heap.size = w.heap.size + 1 := by simp
  obtain ⟨t0, t1⟩ := two_new (w.alloc (.cells #[.int .i64 d.a.k, .slice ia d.a.its.length ic, .slice ka d.a.keys.length kc, .int .i64 d.a.fn, .int .i64 d.a.cap, .bool d.a.shut] 56)) (.int .i64 0) (.int .i64 0) 33
  have tf : ∀ j, ((w.alloc (.cells #[.int .i64 d.a.k, .slice ia d.a.its.length ic, .slice ka d.a.keys.length kc, .int .i64 d.a.fn, .int .i64 d.a.cap, .bool d.a.shut] 56)).alloc (.cells #[.int .i64 0, .int .i64 0] 33)).frozen? ⟨w.heap.size + 1, j, none⟩ = false := fun j => by rw [← hz1]; exact frozen_new _ _ _ _
  rw [hz1] at t0 t1
  have hlc : d.cells = [.int .i64 d.a.k, .slice ia d.a.its.length ic, .slice ka d.a.keys.length kc, .int .i64 d.a.fn, .int .i64 d.a.cap, .bool d.a.shut] := by simp only [RD.cells, aoL, ie, ke]
  have HLC := hide hlc
  have HR : Hid (Calls Try.prog 69 #[.pointer (some ⟨r, 0, none⟩), .int .i64 cost] ((w.alloc (.cells #[.int .i64 d.a.k, .slice ia d.a.its.length ic, .slice ka d.a.keys.length kc, .int .i64 d.a.fn, .int .i64 d.a.cap, .bool d.a.shut] 56)).alloc (.cells #[.int .i64 0, .int .i64 0] 33)) fun e W1 => e = .returned (.bool true) ∧ Below w.heap.size w W1 ∧ W1.heap.size = w.heap.size + 2 ∧ Six W1 w.heap.size (.int .i64 d.a.k) (.slice ia d.a.its.length ic) (.slice ka d.a.keys.length kc) (.int .i64 d.a.fn) (.int .i64 d.a.cap) (.bool d.a.shut) ∧ W1.cell? ⟨w.heap.size + 1, 0, none⟩ = some (.int .i64 0) ∧ W1.cell? ⟨w.heap.size + 1, 1, none⟩ = some (.int .i64 0) ∧ ∀ j, W1.frozen? ⟨w.heap.size + 1, j, none⟩ = false) := by
    refine (room_any ((unhide HH).below hB) hb hs cost).mono fun e W1 ⟨he, k, hk⟩ => ?_
    subst hk
    have fd := Fr.drewN (S := fun _ => False) (w := ((w.alloc (.cells #[.int .i64 d.a.k, .slice ia d.a.its.length ic, .slice ka d.a.keys.length kc, .int .i64 d.a.fn, .int .i64 d.a.cap, .bool d.a.shut] 56)).alloc (.cells #[.int .i64 0, .int .i64 0] 33))) k
    have hlt : w.heap.size + 1 < ((w.alloc (.cells #[.int .i64 d.a.k, .slice ia d.a.its.length ic, .slice ka d.a.keys.length kc, .int .i64 d.a.fn, .int .i64 d.a.cap, .bool d.a.shut] 56)).alloc (.cells #[.int .i64 0, .int .i64 0] 33)).heap.size := by rw [hz0]; omega
    exact ⟨by rw [he, hr], hB.trans (fd.below (by rw [hz0]; omega) (fun _ _ e => e)), by simp, S0.fr fd (fun e => e), (fd.cell (a := ⟨w.heap.size + 1, 0, none⟩) hlt (fun e => e)).trans t0, (fd.cell (a := ⟨w.heap.size + 1, 1, none⟩) hlt (fun e => e)).trans t1, fun j => (fd.frozen (a := ⟨w.heap.size + 1, j, none⟩) hlt (fun e => e)).trans (tf j)⟩
  rw [ie, ke]
  clear hB hlc S0 hz0 hz1 t0 t1 tf
  go_enter Try.func72, Try.ntmps72
  go_wp2_with fail
  refine (unhide HR).mono ?_
  rintro e1 W1 ⟨rfl, b1, z1, S1, t0, t1, tf⟩
  have H1 := (unhide HH).below b1
  obtain ⟨g1, g2⟩ := H1.spent (sp + cost)
  have h1 := H1.c1
  have hl := H1.rlt
  have hf := H1.free
  have hrw := (unhide HH).rlt
  obtain ⟨ra, rc, re, _⟩ := g1.row.shape
  have fr1 : Fr (fun q => q = r) W1 (W1.setCell ⟨r, 1, none⟩ (.int .i64 (sp + cost))) := (Fr.refl (fun q => q = r) W1).setCell ⟨r, 1, none⟩ (.inr rfl) _
  have S2 := S1.fr fr1 (by omega)
  have lt1 : w.heap.size + 1 < W1.heap.size := by omega
  have ne1 : ¬ w.heap.size + 1 = r := by omega
  have T2 : (W1.setCell ⟨r, 1, none⟩ (.int .i64 (sp + cost))).cell? ⟨w.heap.size + 1, 0, none⟩ = some (.int .i64 0) ∧ (W1.setCell ⟨r, 1, none⟩ (.int .i64 (sp + cost))).cell? ⟨w.heap.size + 1, 1, none⟩ = some (.int .i64 0) ∧ ∀ j, (W1.setCell ⟨r, 1, none⟩ (.int .i64 (sp + cost))).frozen? ⟨w.heap.size + 1, j, none⟩ = false :=
    ⟨(fr1.cell (a := ⟨w.heap.size + 1, 0, none⟩) lt1 ne1).trans t0, (fr1.cell (a := ⟨w.heap.size + 1, 1, none⟩) lt1 ne1).trans t1, fun j => (fr1.frozen (a := ⟨w.heap.size + 1, j, none⟩) lt1 ne1).trans (tf j)⟩
  have z2 : (W1.setCell ⟨r, 1, none⟩ (.int .i64 (sp + cost))).heap.size = w.heap.size + 2 := by simp [z1]
  have hR2 : Fr (Rfs r rv ds) w (W1.setCell ⟨r, 1, none⟩ (.int .i64 (sp + cost))) := (Fr.of_below b1).trans g2
  have hokW : d.ok (W1.setCell ⟨r, 1, none⟩ (.int .i64 (sp + cost))) := (unhide HO).keep ((Fr.of_below (S := fun q => q = r) b1).trans fr1) (fun k hk e => (unhide HN k hk).1 e)
  have HS2 := hide S2
  have HT2 := hide T2
  have HZ2 := hide z2
  have HR2 := hide hR2
  have HOK := hide hokW
  have HG1 := hide g1
  clear H1 g1 g2 fr1 S2 T2 z2 hR2 hokW lt1 ne1
  go_wp2_with fail
  clear h1 hf b1 z1 S1 t0 t1 tf hl
  obtain ⟨W, eW⟩ : ∃ W, W = W1.setCell ⟨r, 1, none⟩ (.int .i64 (sp + cost)) := ⟨_, rfl⟩
  rw [← eW] at HS2 HT2 HZ2 HR2 HOK HG1 ⊢
  clear eW W1
  have hc2 : W.cell? ⟨r, 2, none⟩ = some (.slice ra ds.length rc) := by have := (unhide HG1).c2; rw [re] at this; exact this
  have HRo : Hid (Ro W.drew 6 (.slice ra ds.length rc) ds.length (rdF ds)) := by
    have := (unhide HG1).row
    rw [re] at this
    exact this.keep (fun _ _ => rfl)
  have H1C : Hid (∀ u ∈ d.cells, u.oneCell' = true) := by
    intro u hu
    rw [unhide HLC] at hu
    simp only [List.mem_cons, List.not_mem_nil, or_false] at hu
    rcases hu with rfl | rfl | rfl | rfl | rfl | rfl <;> rfl
  have HSET : Hid (∀ v' w5, Ro w5 6 v' (ds.length + 1) (rdF ds ++ d.cells) → (W.alloc (.cells #[.int .i64 d.a.k, .slice ia d.a.its.length ic, .slice ka d.a.keys.length kc, .int .i64 d.a.fn, .int .i64 d.a.cap, .bool d.a.shut] 56)).grownBy w5 (Value.slice ra ds.length rc).ownBlock → (v'.ownBlock = (Value.slice ra ds.length rc).ownBlock ∨ v'.ownBlock = some (W.alloc (.cells #[.int .i64 d.a.k, .slice ia d.a.its.length ic, .slice ka d.a.keys.length kc, .int .i64 d.a.fn, .int .i64 d.a.cap, .bool d.a.shut] 56)).heap.size) →
      w5.cell? ⟨r, 2, none⟩ = some (.slice ra ds.length rc) ∧ w5.frozen? ⟨r, 2, none⟩ = false ∧ Rh (w5.setCell ⟨r, 2, none⟩ v') r bud (sp + cost) v' (ds ++ [d]) ∧ Fr (Rfs r rv ds) W (w5.setCell ⟨r, 2, none⟩ v') ∧ ∀ k, Rfs r v' (ds ++ [d]) k → Rfs r rv ds k ∨ d.mine k ∨ W.heap.size ≤ k) := fun v' w5 hr hg hat => by
    have := (unhide HG1).more (unhide HOK) (unhide HN) ((Below.refl _ W).alloc (Nat.le_refl _) (.cells #[.int .i64 d.a.k, .slice ia d.a.its.length ic, .slice ka d.a.keys.length kc, .int .i64 d.a.fn, .int .i64 d.a.cap, .bool d.a.shut] 56)) (by rw [re]; exact hg) hr (by rw [re]; exact hat)
    rw [re] at this ⊢
    exact this
  have hnr : Hid ((Value.slice ra ds.length rc).ownBlock ≠ some w.heap.size ∧ (Value.slice ra ds.length rc).ownBlock ≠ some (w.heap.size + 1)) := by
    constructor
    · intro e; rw [← re] at e; have := (unhide HH).row.lt _ e; omega
    · intro e; rw [← re] at e; have := (unhide HH).row.lt _ e; omega
  have HQ : Hid (∀ w5, (W.alloc (.cells #[.int .i64 d.a.k, .slice ia d.a.its.length ic, .slice ka d.a.keys.length kc, .int .i64 d.a.fn, .int .i64 d.a.cap, .bool d.a.shut] 56)).grownBy w5 (Value.slice ra ds.length rc).ownBlock → (w5.cell? ⟨w.heap.size, 0, none⟩ = some (.int .i64 d.a.k) ∧ w5.cell? ⟨w.heap.size, 1, none⟩ = some (.slice ia d.a.its.length ic) ∧ w5.cell? ⟨w.heap.size, 2, none⟩ = some (.slice ka d.a.keys.length kc) ∧ w5.cell? ⟨w.heap.size, 3, none⟩ = some (.int .i64 d.a.fn) ∧ w5.cell? ⟨w.heap.size, 4, none⟩ = some (.int .i64 d.a.cap) ∧ w5.cell? ⟨w.heap.size, 5, none⟩ = some (.bool d.a.shut)) ∧ w5.cell? ⟨w.heap.size + 1, 0, none⟩ = some (.int .i64 0) ∧ w5.cell? ⟨w.heap.size + 1, 1, none⟩ = some (.int .i64 0) ∧ ∀ j, w5.frozen? ⟨w.heap.size + 1, j, none⟩ = false) := fun w5 hg => by
    have hz : w.heap.size + 1 < W.heap.size := by have := unhide HZ2; omega
    have fg : Fr (fun k => (Value.slice ra ds.length rc).ownBlock = some k) W w5 := ((Fr.refl (fun k => (Value.slice ra ds.length rc).ownBlock = some k) W).alloc (.cells #[.int .i64 d.a.k, .slice ia d.a.its.length ic, .slice ka d.a.keys.length kc, .int .i64 d.a.fn, .int .i64 d.a.cap, .bool d.a.shut] 56)).grown hg (fun k e => .inr e)
    have S5 := (unhide HS2).fr fg (fun e => (unhide hnr).1 e)
    obtain ⟨t0, t1, tf⟩ := unhide HT2
    exact ⟨⟨S5.1 0 (by omega), S5.1 1 (by omega), S5.1 2 (by omega), S5.1 3 (by omega), S5.1 4 (by omega), S5.1 5 (by omega)⟩, (fg.cell (a := ⟨w.heap.size + 1, 0, none⟩) hz (fun e => (unhide hnr).2 e)).trans t0, (fg.cell (a := ⟨w.heap.size + 1, 1, none⟩) hz (fun e => (unhide hnr).2 e)).trans t1, fun j => (fg.frozen (a := ⟨w.heap.size + 1, j, none⟩) hz (fun e => (unhide hnr).2 e)).trans (tf j)⟩
  have HQ6 : Hid (∀ (w5 : World) (u : Value), (w5.cell? ⟨w.heap.size, 0, none⟩ = some (.int .i64 d.a.k) ∧ w5.cell? ⟨w.heap.size, 1, none⟩ = some (.slice ia d.a.its.length ic) ∧ w5.cell? ⟨w.heap.size, 2, none⟩ = some (.slice ka d.a.keys.length kc) ∧ w5.cell? ⟨w.heap.size, 3, none⟩ = some (.int .i64 d.a.fn) ∧ w5.cell? ⟨w.heap.size, 4, none⟩ = some (.int .i64 d.a.cap) ∧ w5.cell? ⟨w.heap.size, 5, none⟩ = some (.bool d.a.shut)) → (w5.cell? ⟨w.heap.size + 1, 0, none⟩ = some (.int .i64 0) ∧ w5.cell? ⟨w.heap.size + 1, 1, none⟩ = some (.int .i64 0) ∧ ∀ j, w5.frozen? ⟨w.heap.size + 1, j, none⟩ = false) → ((w5.setCell ⟨r, 2, none⟩ u).cell? ⟨w.heap.size, 0, none⟩ = some (.int .i64 d.a.k) ∧ (w5.setCell ⟨r, 2, none⟩ u).cell? ⟨w.heap.size, 1, none⟩ = some (.slice ia d.a.its.length ic) ∧ (w5.setCell ⟨r, 2, none⟩ u).cell? ⟨w.heap.size, 2, none⟩ = some (.slice ka d.a.keys.length kc) ∧ (w5.setCell ⟨r, 2, none⟩ u).cell? ⟨w.heap.size, 3, none⟩ = some (.int .i64 d.a.fn) ∧ (w5.setCell ⟨r, 2, none⟩ u).cell? ⟨w.heap.size, 4, none⟩ = some (.int .i64 d.a.cap) ∧ (w5.setCell ⟨r, 2, none⟩ u).cell? ⟨w.heap.size, 5, none⟩ = some (.bool d.a.shut)) ∧ (w5.setCell ⟨r, 2, none⟩ u).cell? ⟨w.heap.size + 1, 0, none⟩ = some (.int .i64 0) ∧ (w5.setCell ⟨r, 2, none⟩ u).cell? ⟨w.heap.size + 1, 1, none⟩ = some (.int .i64 0) ∧ ∀ j, (w5.setCell ⟨r, 2, none⟩ u).frozen? ⟨w.heap.size + 1, j, none⟩ = false) := fun w5 u hA hB => by
    have o : ∀ b j, b ≠ r → (w5.setCell ⟨r, 2, none⟩ u).cell? ⟨b, j, none⟩ = w5.cell? ⟨b, j, none⟩ := fun b j hb => World.cell?_setCell_other _ _ _ _ (fun e => hb (congrArg Addr.block e).symm)
    have n1 : w.heap.size ≠ r := by omega
    have n2 : w.heap.size + 1 ≠ r := by omega
    refine ⟨?_, ?_, ?_, fun j => by rw [World.frozen?_setCell]; exact hB.2.2 j⟩
    · rw [o _ 0 n1, o _ 1 n1, o _ 2 n1, o _ 3 n1, o _ 4 n1, o _ 5 n1]; exact hA
    · rw [o _ 0 n2]; exact hB.1
    · rw [o _ 1 n2]; exact hB.2.1
  have hS : W.cell? ⟨w.heap.size, 0, none⟩ = some (.int .i64 d.a.k) ∧ W.cell? ⟨w.heap.size, 1, none⟩ = some (.slice ia d.a.its.length ic) ∧ W.cell? ⟨w.heap.size, 2, none⟩ = some (.slice ka d.a.keys.length kc) ∧ W.cell? ⟨w.heap.size, 3, none⟩ = some (.int .i64 d.a.fn) ∧ W.cell? ⟨w.heap.size, 4, none⟩ = some (.int .i64 d.a.cap) ∧ W.cell? ⟨w.heap.size, 5, none⟩ = some (.bool d.a.shut) := ⟨(unhide HS2).1 0 (by omega), (unhide HS2).1 1 (by omega), (unhide HS2).1 2 (by omega), (unhide HS2).1 3 (by omega), (unhide HS2).1 4 (by omega), (unhide HS2).1 5 (by omega)⟩
  have HSA : Hid ((W.alloc (.cells #[.int .i64 d.a.k, .slice ia d.a.its.length ic, .slice ka d.a.keys.length kc, .int .i64 d.a.fn, .int .i64 d.a.cap, .bool d.a.shut] 56)).drew.cell? ⟨w.heap.size, 0, none⟩ = some (.int .i64 d.a.k) ∧ (W.alloc (.cells #[.int .i64 d.a.k, .slice ia d.a.its.length ic, .slice ka d.a.keys.length kc, .int .i64 d.a.fn, .int .i64 d.a.cap, .bool d.a.shut] 56)).drew.cell? ⟨w.heap.size, 1, none⟩ = some (.slice ia d.a.its.length ic) ∧ (W.alloc (.cells #[.int .i64 d.a.k, .slice ia d.a.its.length ic, .slice ka d.a.keys.length kc, .int .i64 d.a.fn, .int .i64 d.a.cap, .bool d.a.shut] 56)).drew.cell? ⟨w.heap.size, 2, none⟩ = some (.slice ka d.a.keys.length kc) ∧ (W.alloc (.cells #[.int .i64 d.a.k, .slice ia d.a.its.length ic, .slice ka d.a.keys.length kc, .int .i64 d.a.fn, .int .i64 d.a.cap, .bool d.a.shut] 56)).drew.cell? ⟨w.heap.size, 3, none⟩ = some (.int .i64 d.a.fn) ∧ (W.alloc (.cells #[.int .i64 d.a.k, .slice ia d.a.its.length ic, .slice ka d.a.keys.length kc, .int .i64 d.a.fn, .int .i64 d.a.cap, .bool d.a.shut] 56)).drew.cell? ⟨w.heap.size, 4, none⟩ = some (.int .i64 d.a.cap) ∧ (W.alloc (.cells #[.int .i64 d.a.k, .slice ia d.a.its.length ic, .slice ka d.a.keys.length kc, .int .i64 d.a.fn, .int .i64 d.a.cap, .bool d.a.shut] 56)).drew.cell? ⟨w.heap.size, 5, none⟩ = some (.bool d.a.shut)) := by
    have S5 := ((unhide HS2).fr ((Fr.refl (fun _ => False) W).alloc (.cells #[.int .i64 d.a.k, .slice ia d.a.its.length ic, .slice ka d.a.keys.length kc, .int .i64 d.a.fn, .int .i64 d.a.cap, .bool d.a.shut] 56)) (fun e => e)).fr ((Fr.refl (fun _ => False) _).drew) (fun e => e)
    exact ⟨S5.1 0 (by omega), S5.1 1 (by omega), S5.1 2 (by omega), S5.1 3 (by omega), S5.1 4 (by omega), S5.1 5 (by omega)⟩
  have hlW : r < W.heap.size := by have := unhide HZ2; omega
  have hcA : (W.alloc (.cells #[.int .i64 d.a.k, .slice ia d.a.its.length ic, .slice ka d.a.keys.length kc, .int .i64 d.a.fn, .int .i64 d.a.cap, .bool d.a.shut] 56)).cell? ⟨r, 2, none⟩ = some (.slice ra ds.length rc) := (World.cell?_of_block (Below.heap_alloc _ _ _ hlW)).trans hc2
  refine wp_region_held_drew (S := (fun wx => wx.cell? ⟨w.heap.size, 0, none⟩ = some (.int .i64 d.a.k) ∧ wx.cell? ⟨w.heap.size, 1, none⟩ = some (.slice ia d.a.its.length ic) ∧ wx.cell? ⟨w.heap.size, 2, none⟩ = some (.slice ka d.a.keys.length kc) ∧ wx.cell? ⟨w.heap.size, 3, none⟩ = some (.int .i64 d.a.fn) ∧ wx.cell? ⟨w.heap.size, 4, none⟩ = some (.int .i64 d.a.cap) ∧ wx.cell? ⟨w.heap.size, 5, none⟩ = some (.bool d.a.shut))) (by kernel_rfl) hS (fun hHeld => ?_)
  refine wpAnyH_take (i := 0) (oi := _) (v := .pointer (some ⟨r, 0, none⟩)) rfl (by kernel_rfl) (by kernel_rfl) (by kernel_rfl) (fun _ _ _ h => h) (Or.inl ⟨by rfl, (by intro w hSw; go_simp)⟩) (by assumption) ?_
  refine wpAnyH_take (i := 1) (oi := _) (v := .pointer (some ⟨r, 0, none⟩)) rfl (by kernel_rfl) (by kernel_rfl) (by kernel_rfl) (fun _ _ _ h => h) (Or.inl ⟨by rfl, (by intro w hSw; go_simp)⟩) (by assumption) ?_
  refine wpAnyH_take (i := 2) (oi := _) (v := .pointer (some ⟨r, 0, none⟩)) rfl (by kernel_rfl) (by kernel_rfl) (by kernel_rfl) (fun _ _ _ h => h) (Or.inl ⟨by rfl, (by intro w hSw; go_simp)⟩) (by assumption) ?_
  go_simp
  refine wpAnyH_take (i := 3) (oi := _) (v := .pointer (some ⟨r, 2, none⟩)) rfl (by kernel_rfl) (by kernel_rfl) (by kernel_rfl) (fun _ _ _ h => h) (Or.inl ⟨by rfl, (by intro w hSw; go_simp)⟩) (by assumption) ?_
  refine wpAnyH_take (i := 5) (oi := _) (v := .agg #[.int .i64 d.a.k, .slice ia d.a.its.length ic, .slice ka d.a.keys.length kc, .int .i64 d.a.fn, .int .i64 d.a.cap, .bool d.a.shut]) rfl (by kernel_rfl) (by kernel_rfl) (by kernel_rfl) (fun _ _ _ h => h) (Or.inl ⟨by rfl, (by intro w hSw; obtain ⟨hs0, hs1, hs2, hs3, hs4, hs5⟩ := hSw; go_simp)⟩) (by assumption) ?_
  go_simp
  refine wpAnyH_ready (rs := [4, 6]) (by kernel_rfl) (by simp) ?_
  refine AllReadyH.cons (o := _) rfl (fun K hK => ?_) (AllReadyH.cons (o := _) rfl (fun K hK => ?_) AllReadyH.nil)
  · go_simp
    refine hK.out _ _ hHeld (fun _ => ?_)
    clear hK K
    refine wpAnyH_ready (rs := [6]) (by kernel_rfl) (by simp) ?_
    refine AllReadyH.cons (o := _) rfl (fun K hK => ?_) AllReadyH.nil
    go_simp
    refine hK.out _ _ (unhide HSA) (fun _ => ?_)
    clear hK K
    refine wpAnyH_ready (rs := [7]) (by kernel_rfl) (by simp) ?_
    refine AllReadyH.cons (o := _) rfl (fun K hK => ?_) AllReadyH.nil
    refine step_appD rfl _ _ rfl (.slice ra ds.length rc) ds rfl (((unhide HRo).keep (w' := W.drew.alloc (.cells #[.int .i64 d.a.k, .slice ia d.a.its.length ic, .slice ka d.a.keys.length kc, .int .i64 d.a.fn, .int .i64 d.a.cap, .bool d.a.shut] 56)) (fun g hg => Below.heap_alloc _ _ _ ((unhide HRo).lt g hg))).keep (fun _ _ => rfl)) ⟨W.heap.size, 0, none⟩ 1 d rfl (by rw [unhide HLC]; exact six_new' W (.int .i64 d.a.k) (.slice ia d.a.its.length ic) (.slice ka d.a.keys.length kc) (.int .i64 d.a.fn) (.int .i64 d.a.cap) (.bool d.a.shut) 56) (unhide H1C) hL ?_
    intro v' w5 hr5 hg5 hat5
    obtain ⟨va, vcap, rfl, _⟩ := hr5.shape
    have hg5' : (W.alloc (.cells #[.int .i64 d.a.k, .slice ia d.a.its.length ic, .slice ka d.a.keys.length kc, .int .i64 d.a.fn, .int .i64 d.a.cap, .bool d.a.shut] 56)).grownBy w5 (Value.slice ra ds.length rc).ownBlock := ⟨hg5.os, hg5.tape, hg5.output, hg5.size, hg5.block⟩
    obtain ⟨k0, kf, A⟩ := unhide HSET _ w5 hr5 hg5' hat5
    obtain ⟨S5, T5⟩ := unhide HQ w5 hg5'
    have HA := hide A
    clear hr5 hg5 hg5' hat5 A
    refine hK.out _ _ S5 (fun hHeld5 => ?_)
    clear hK K
    go_simp
    refine wpAnyH_take (i := 8) (oi := _) (v := .pointer (some ⟨r, 0, none⟩)) rfl (by kernel_rfl) (by kernel_rfl) (by kernel_rfl) (fun _ _ _ h => h) (Or.inl ⟨by rfl, (by intro w hSw; go_simp)⟩) (by assumption) ?_
    refine wpAnyH_take (i := 9) (oi := _) (v := .pointer (some ⟨r, 2, none⟩)) rfl (by kernel_rfl) (by kernel_rfl) (by kernel_rfl) (fun _ _ _ h => h) (Or.inl ⟨by rfl, (by intro w hSw; go_simp)⟩) (by assumption) ?_
    go_simp
    refine wpAnyH_ready (rs := [10]) (by kernel_rfl) (by simp) ?_
    refine AllReadyH.cons (o := _) rfl (fun K hK => ?_) AllReadyH.nil
    have hb5 : r < w5.heap.size := World.block_lt_of_cell? _ _ k0
    go_simp
    obtain ⟨S6, T6⟩ := unhide HQ6 w5 (.slice va (ds.length + 1) vcap) S5 T5
    refine hK.out _ _ S6 (fun hHeld6 => ?_)
    clear hK K
    refine wpAnyH_done (by kernel_rfl) ?_ _
    have c6 : (w5.setCell ⟨r, 2, none⟩ (.slice va (ds.length + 1) vcap)).cell? ⟨r, 2, none⟩ = some (.slice va (ds.length + 1) vcap) := World.cell?_setCell_same _ _ _ k0
    clear hHeld hHeld5 hHeld6 S5 k0 kf hc2 hS
    obtain ⟨W6, eW6⟩ : ∃ W6, W6 = w5.setCell ⟨r, 2, none⟩ (.slice va (ds.length + 1) vcap) := ⟨_, rfl⟩
    rw [← eW6] at S6 T6 c6 HA ⊢
    clear eW6 T5 hb5 w5
    obtain ⟨s0, s1, s2, s3, s4, s5⟩ := S6
    obtain ⟨t0, t1, tf⟩ := T6
    have hl6 : r < W6.heap.size := World.block_lt_of_cell? _ _ c6
    have hl7 : w.heap.size + 1 < W6.heap.size := World.block_lt_of_cell? _ _ t0
    have hl8 : w.heap.size < W6.heap.size := by omega
    go_wp2_with fail
    have HT6 : Hid (∀ u0 u1, ((W6.setCell ⟨w.heap.size + 1, 0, none⟩ u0).setCell ⟨w.heap.size + 1, 1, none⟩ u1).cell? ⟨w.heap.size, 0, none⟩ = some (.int .i64 d.a.k) ∧ ((W6.setCell ⟨w.heap.size + 1, 0, none⟩ u0).setCell ⟨w.heap.size + 1, 1, none⟩ u1).cell? ⟨r, 2, none⟩ = some (.slice va (ds.length + 1) vcap) ∧ r < ((W6.setCell ⟨w.heap.size + 1, 0, none⟩ u0).setCell ⟨w.heap.size + 1, 1, none⟩ u1).heap.size) := fun u0 u1 => by
      refine ⟨?_, ?_, by simpa using hl6⟩
      · rw [World.cell?_setCell_other _ _ _ _ (by simp), World.cell?_setCell_other _ _ _ _ (by simp)]; exact s0
      · rw [World.cell?_setCell_other _ _ _ _ (by simp; try omega), World.cell?_setCell_other _ _ _ _ (by simp; try omega)]; exact c6
    refine wp_region_held_drew (S := (fun wx => wx.cell? ⟨w.heap.size, 0, none⟩ = some (.int .i64 d.a.k) ∧ wx.cell? ⟨r, 2, none⟩ = some (.slice va (ds.length + 1) vcap) ∧ r < wx.heap.size)) (by kernel_rfl) ⟨s0, c6, hl6⟩ (fun hHeld => ?_)
    refine wpAnyH_take (i := 0) (oi := _) (v := .pointer (some ⟨w.heap.size, 0, none⟩)) rfl (by kernel_rfl) (by kernel_rfl) (by kernel_rfl) (fun _ _ _ h => h) (Or.inl ⟨by rfl, (by intro w hSw; obtain ⟨hs0, hs1, hs2⟩ := hSw; go_simp)⟩) (by assumption) ?_
    refine wpAnyH_take (i := 1) (oi := _) (v := .int .i64 d.a.k) rfl (by kernel_rfl) (by kernel_rfl) (by kernel_rfl) (fun _ _ _ h => h) (Or.inl ⟨by rfl, (by intro w hSw; obtain ⟨hs0, hs1, hs2⟩ := hSw; go_simp)⟩) (by assumption) ?_
    refine wpAnyH_take (i := 2) (oi := _) (v := .pointer (some ⟨r, 0, none⟩)) rfl (by kernel_rfl) (by kernel_rfl) (by kernel_rfl) (fun _ _ _ h => h) (Or.inl ⟨by rfl, (by intro w hSw; go_simp)⟩) (by assumption) ?_
    refine wpAnyH_take (i := 3) (oi := _) (v := .pointer (some ⟨r, 0, none⟩)) rfl (by kernel_rfl) (by kernel_rfl) (by kernel_rfl) (fun _ _ _ h => h) (Or.inl ⟨by rfl, (by intro w hSw; obtain ⟨hs0, hs1, hs2⟩ := hSw; go_simp)⟩) (by assumption) ?_
    go_simp
    refine wpAnyH_take (i := 4) (oi := _) (v := .pointer (some ⟨r, 2, none⟩)) rfl (by kernel_rfl) (by kernel_rfl) (by kernel_rfl) (fun _ _ _ h => h) (Or.inl ⟨by rfl, (by intro w hSw; obtain ⟨hs0, hs1, hs2⟩ := hSw; go_simp)⟩) (by assumption) ?_
    refine wpAnyH_take (i := 5) (oi := _) (v := .slice va (ds.length + 1) vcap) rfl (by kernel_rfl) (by kernel_rfl) (by kernel_rfl) (fun _ _ _ h => h) (Or.inl ⟨by rfl, (by intro w hSw; obtain ⟨hs0, hs1, hs2⟩ := hSw; go_simp)⟩) (by assumption) ?_
    refine wpAnyH_take (i := 6) (oi := _) (v := .int .i64 ((ds.length : Int) + 1)) rfl (by kernel_rfl) (by kernel_rfl) (by kernel_rfl) (fun _ _ _ h => h) (Or.inl ⟨by rfl, (by intro w hSw; go_simp)⟩) (by assumption) ?_
    refine wpAnyH_take (i := 7) (oi := _) (v := .int .i64 (ds.length : Int)) rfl (by kernel_rfl) (by kernel_rfl) (by kernel_rfl) (fun _ _ _ h => h) (Or.inl ⟨by rfl, (by intro w hSw; go_simp; exact IntWalk.i64_in _ (by omega))⟩) (by assumption) ?_
    refine wpAnyH_take (i := 8) (oi := _) (v := .agg #[.int .i64 d.a.k, .int .i64 (ds.length : Int)]) rfl (by kernel_rfl) (by kernel_rfl) (by kernel_rfl) (fun _ _ _ h => h) (Or.inl ⟨by rfl, (by intro w hSw; go_simp)⟩) (by assumption) ?_
    go_simp
    refine wpAnyH_ready (rs := [9]) (by kernel_rfl) (by simp) ?_
    refine AllReadyH.cons (o := _) rfl (fun K hK => ?_) AllReadyH.nil
    go_simp
    refine hK.out _ _ (unhide HT6 _ _) (fun hHeld1 => ?_)
    clear hK K
    refine wpAnyH_take (i := 10) (oi := _) (v := .bool true) rfl (by kernel_rfl) (by kernel_rfl) (by kernel_rfl) (fun _ _ _ h => h) (Or.inl ⟨by rfl, (by intro w hSw; go_simp)⟩) (by assumption) ?_
    refine wpAnyH_done (by kernel_rfl) ?_ _
    have BF : Fr (fun q => q = w.heap.size + 1) W6 ((W6.setCell ⟨w.heap.size + 1, 0, none⟩ (.int .i64 d.a.k)).setCell ⟨w.heap.size + 1, 1, none⟩ (.int .i64 (ds.length : Int))) := ((Fr.refl (fun q => q = w.heap.size + 1) W6).setCell ⟨w.heap.size + 1, 0, none⟩ (.inr rfl) _).setCell ⟨w.heap.size + 1, 1, none⟩ (.inr rfl) _
    have z0 : ((W6.setCell ⟨w.heap.size + 1, 0, none⟩ (.int .i64 d.a.k)).setCell ⟨w.heap.size + 1, 1, none⟩ (.int .i64 (ds.length : Int))).cell? ⟨w.heap.size + 1, 0, none⟩ = some (.int .i64 d.a.k) := by
      rw [World.cell?_setCell_other _ _ _ _ (by simp)]; exact World.cell?_setCell_same _ _ _ t0
    have z1 : ((W6.setCell ⟨w.heap.size + 1, 0, none⟩ (.int .i64 d.a.k)).setCell ⟨w.heap.size + 1, 1, none⟩ (.int .i64 (ds.length : Int))).cell? ⟨w.heap.size + 1, 1, none⟩ = some (.int .i64 (ds.length : Int)) :=
      World.cell?_setCell_same _ _ _ ((World.cell?_setCell_other _ _ _ _ (by simp)).trans t1)
    go_wp2_with fail
    have BF := BF.drew
    obtain ⟨a1, a2, a3⟩ := unhide HA
    have hzw := unhide HZ2
    have nb : ¬ Rfs r (.slice va (ds.length + 1) vcap) (ds ++ [d]) (w.heap.size + 1) := fun e => by
      rcases a3 _ e with q | q | q
      · have := (unhide HH).lt _ q; omega
      · have := (unhide HO).lt _ q; omega
      · omega
    refine bodyPost_ret (v := .tuple #[.agg #[.int .i64 d.a.k, .int .i64 (ds.length : Int)], .bool true]) (by simp [results, Try.results72, go_sem, z0, z1]) rfl ?_
    refine ⟨rfl, _, a1.keep BF (fun k hk e => nb (e ▸ hk)), ?_, fun k hk => (a3 k hk).imp id (fun q => q.imp id (fun q => by omega))⟩
    have f7 := (unhide HR2).trans a2
    refine ⟨BF.os.trans f7.os, BF.tape.trans f7.tape, BF.output.trans f7.output, Nat.le_trans f7.size BF.size, fun k hk hn => (BF.block k (Nat.lt_of_lt_of_le hk f7.size) (by omega)).trans (f7.block k hk hn)⟩
  · go_simp
    refine hK.out _ _ (unhide HSA) (fun _ => ?_)
    clear hK K
    refine wpAnyH_ready (rs := [4]) (by kernel_rfl) (by simp) ?_
    refine AllReadyH.cons (o := _) rfl (fun K hK => ?_) AllReadyH.nil
    go_simp
    refine hK.out _ _ (unhide HSA) (fun _ => ?_)
    clear hK K
    refine wpAnyH_ready (rs := [7]) (by kernel_rfl) (by simp) ?_
    refine AllReadyH.cons (o := _) rfl (fun K hK => ?_) AllReadyH.nil
    refine step_appD rfl _ _ rfl (.slice ra ds.length rc) ds rfl (((unhide HRo).keep (w' := W.drew.alloc (.cells #[.int .i64 d.a.k, .slice ia d.a.its.length ic, .slice ka d.a.keys.length kc, .int .i64 d.a.fn, .int .i64 d.a.cap, .bool d.a.shut] 56)) (fun g hg => Below.heap_alloc _ _ _ ((unhide HRo).lt g hg))).keep (fun _ _ => rfl)) ⟨W.heap.size, 0, none⟩ 1 d rfl (by rw [unhide HLC]; exact six_new' W (.int .i64 d.a.k) (.slice ia d.a.its.length ic) (.slice ka d.a.keys.length kc) (.int .i64 d.a.fn) (.int .i64 d.a.cap) (.bool d.a.shut) 56) (unhide H1C) hL ?_
    intro v' w5 hr5 hg5 hat5
    obtain ⟨va, vcap, rfl, _⟩ := hr5.shape
    have hg5' : (W.alloc (.cells #[.int .i64 d.a.k, .slice ia d.a.its.length ic, .slice ka d.a.keys.length kc, .int .i64 d.a.fn, .int .i64 d.a.cap, .bool d.a.shut] 56)).grownBy w5 (Value.slice ra ds.length rc).ownBlock := ⟨hg5.os, hg5.tape, hg5.output, hg5.size, hg5.block⟩
    obtain ⟨k0, kf, A⟩ := unhide HSET _ w5 hr5 hg5' hat5
    obtain ⟨S5, T5⟩ := unhide HQ w5 hg5'
    have HA := hide A
    clear hr5 hg5 hg5' hat5 A
    refine hK.out _ _ S5 (fun hHeld5 => ?_)
    clear hK K
    go_simp
    refine wpAnyH_take (i := 8) (oi := _) (v := .pointer (some ⟨r, 0, none⟩)) rfl (by kernel_rfl) (by kernel_rfl) (by kernel_rfl) (fun _ _ _ h => h) (Or.inl ⟨by rfl, (by intro w hSw; go_simp)⟩) (by assumption) ?_
    refine wpAnyH_take (i := 9) (oi := _) (v := .pointer (some ⟨r, 2, none⟩)) rfl (by kernel_rfl) (by kernel_rfl) (by kernel_rfl) (fun _ _ _ h => h) (Or.inl ⟨by rfl, (by intro w hSw; go_simp)⟩) (by assumption) ?_
    go_simp
    refine wpAnyH_ready (rs := [10]) (by kernel_rfl) (by simp) ?_
    refine AllReadyH.cons (o := _) rfl (fun K hK => ?_) AllReadyH.nil
    have hb5 : r < w5.heap.size := World.block_lt_of_cell? _ _ k0
    go_simp
    obtain ⟨S6, T6⟩ := unhide HQ6 w5 (.slice va (ds.length + 1) vcap) S5 T5
    refine hK.out _ _ S6 (fun hHeld6 => ?_)
    clear hK K
    refine wpAnyH_done (by kernel_rfl) ?_ _
    have c6 : (w5.setCell ⟨r, 2, none⟩ (.slice va (ds.length + 1) vcap)).cell? ⟨r, 2, none⟩ = some (.slice va (ds.length + 1) vcap) := World.cell?_setCell_same _ _ _ k0
    clear hHeld hHeld5 hHeld6 S5 k0 kf hc2 hS
    obtain ⟨W6, eW6⟩ : ∃ W6, W6 = w5.setCell ⟨r, 2, none⟩ (.slice va (ds.length + 1) vcap) := ⟨_, rfl⟩
    rw [← eW6] at S6 T6 c6 HA ⊢
    clear eW6 T5 hb5 w5
    obtain ⟨s0, s1, s2, s3, s4, s5⟩ := S6
    obtain ⟨t0, t1, tf⟩ := T6
    have hl6 : r < W6.heap.size := World.block_lt_of_cell? _ _ c6
    have hl7 : w.heap.size + 1 < W6.heap.size := World.block_lt_of_cell? _ _ t0
    have hl8 : w.heap.size < W6.heap.size := by omega
    go_wp2_with fail
    have HT6 : Hid (∀ u0 u1, ((W6.setCell ⟨w.heap.size + 1, 0, none⟩ u0).setCell ⟨w.heap.size + 1, 1, none⟩ u1).cell? ⟨w.heap.size, 0, none⟩ = some (.int .i64 d.a.k) ∧ ((W6.setCell ⟨w.heap.size + 1, 0, none⟩ u0).setCell ⟨w.heap.size + 1, 1, none⟩ u1).cell? ⟨r, 2, none⟩ = some (.slice va (ds.length + 1) vcap) ∧ r < ((W6.setCell ⟨w.heap.size + 1, 0, none⟩ u0).setCell ⟨w.heap.size + 1, 1, none⟩ u1).heap.size) := fun u0 u1 => by
      refine ⟨?_, ?_, by simpa using hl6⟩
      · rw [World.cell?_setCell_other _ _ _ _ (by simp), World.cell?_setCell_other _ _ _ _ (by simp)]; exact s0
      · rw [World.cell?_setCell_other _ _ _ _ (by simp; try omega), World.cell?_setCell_other _ _ _ _ (by simp; try omega)]; exact c6
    refine wp_region_held_drew (S := (fun wx => wx.cell? ⟨w.heap.size, 0, none⟩ = some (.int .i64 d.a.k) ∧ wx.cell? ⟨r, 2, none⟩ = some (.slice va (ds.length + 1) vcap) ∧ r < wx.heap.size)) (by kernel_rfl) ⟨s0, c6, hl6⟩ (fun hHeld => ?_)
    refine wpAnyH_take (i := 0) (oi := _) (v := .pointer (some ⟨w.heap.size, 0, none⟩)) rfl (by kernel_rfl) (by kernel_rfl) (by kernel_rfl) (fun _ _ _ h => h) (Or.inl ⟨by rfl, (by intro w hSw; obtain ⟨hs0, hs1, hs2⟩ := hSw; go_simp)⟩) (by assumption) ?_
    refine wpAnyH_take (i := 1) (oi := _) (v := .int .i64 d.a.k) rfl (by kernel_rfl) (by kernel_rfl) (by kernel_rfl) (fun _ _ _ h => h) (Or.inl ⟨by rfl, (by intro w hSw; obtain ⟨hs0, hs1, hs2⟩ := hSw; go_simp)⟩) (by assumption) ?_
    refine wpAnyH_take (i := 2) (oi := _) (v := .pointer (some ⟨r, 0, none⟩)) rfl (by kernel_rfl) (by kernel_rfl) (by kernel_rfl) (fun _ _ _ h => h) (Or.inl ⟨by rfl, (by intro w hSw; go_simp)⟩) (by assumption) ?_
    refine wpAnyH_take (i := 3) (oi := _) (v := .pointer (some ⟨r, 0, none⟩)) rfl (by kernel_rfl) (by kernel_rfl) (by kernel_rfl) (fun _ _ _ h => h) (Or.inl ⟨by rfl, (by intro w hSw; obtain ⟨hs0, hs1, hs2⟩ := hSw; go_simp)⟩) (by assumption) ?_
    go_simp
    refine wpAnyH_take (i := 4) (oi := _) (v := .pointer (some ⟨r, 2, none⟩)) rfl (by kernel_rfl) (by kernel_rfl) (by kernel_rfl) (fun _ _ _ h => h) (Or.inl ⟨by rfl, (by intro w hSw; obtain ⟨hs0, hs1, hs2⟩ := hSw; go_simp)⟩) (by assumption) ?_
    refine wpAnyH_take (i := 5) (oi := _) (v := .slice va (ds.length + 1) vcap) rfl (by kernel_rfl) (by kernel_rfl) (by kernel_rfl) (fun _ _ _ h => h) (Or.inl ⟨by rfl, (by intro w hSw; obtain ⟨hs0, hs1, hs2⟩ := hSw; go_simp)⟩) (by assumption) ?_
    refine wpAnyH_take (i := 6) (oi := _) (v := .int .i64 ((ds.length : Int) + 1)) rfl (by kernel_rfl) (by kernel_rfl) (by kernel_rfl) (fun _ _ _ h => h) (Or.inl ⟨by rfl, (by intro w hSw; go_simp)⟩) (by assumption) ?_
    refine wpAnyH_take (i := 7) (oi := _) (v := .int .i64 (ds.length : Int)) rfl (by kernel_rfl) (by kernel_rfl) (by kernel_rfl) (fun _ _ _ h => h) (Or.inl ⟨by rfl, (by intro w hSw; go_simp; exact IntWalk.i64_in _ (by omega))⟩) (by assumption) ?_
    refine wpAnyH_take (i := 8) (oi := _) (v := .agg #[.int .i64 d.a.k, .int .i64 (ds.length : Int)]) rfl (by kernel_rfl) (by kernel_rfl) (by kernel_rfl) (fun _ _ _ h => h) (Or.inl ⟨by rfl, (by intro w hSw; go_simp)⟩) (by assumption) ?_
    go_simp
    refine wpAnyH_ready (rs := [9]) (by kernel_rfl) (by simp) ?_
    refine AllReadyH.cons (o := _) rfl (fun K hK => ?_) AllReadyH.nil
    go_simp
    refine hK.out _ _ (unhide HT6 _ _) (fun hHeld1 => ?_)
    clear hK K
    refine wpAnyH_take (i := 10) (oi := _) (v := .bool true) rfl (by kernel_rfl) (by kernel_rfl) (by kernel_rfl) (fun _ _ _ h => h) (Or.inl ⟨by rfl, (by intro w hSw; go_simp)⟩) (by assumption) ?_
    refine wpAnyH_done (by kernel_rfl) ?_ _
    have BF : Fr (fun q => q = w.heap.size + 1) W6 ((W6.setCell ⟨w.heap.size + 1, 0, none⟩ (.int .i64 d.a.k)).setCell ⟨w.heap.size + 1, 1, none⟩ (.int .i64 (ds.length : Int))) := ((Fr.refl (fun q => q = w.heap.size + 1) W6).setCell ⟨w.heap.size + 1, 0, none⟩ (.inr rfl) _).setCell ⟨w.heap.size + 1, 1, none⟩ (.inr rfl) _
    have z0 : ((W6.setCell ⟨w.heap.size + 1, 0, none⟩ (.int .i64 d.a.k)).setCell ⟨w.heap.size + 1, 1, none⟩ (.int .i64 (ds.length : Int))).cell? ⟨w.heap.size + 1, 0, none⟩ = some (.int .i64 d.a.k) := by
      rw [World.cell?_setCell_other _ _ _ _ (by simp)]; exact World.cell?_setCell_same _ _ _ t0
    have z1 : ((W6.setCell ⟨w.heap.size + 1, 0, none⟩ (.int .i64 d.a.k)).setCell ⟨w.heap.size + 1, 1, none⟩ (.int .i64 (ds.length : Int))).cell? ⟨w.heap.size + 1, 1, none⟩ = some (.int .i64 (ds.length : Int)) :=
      World.cell?_setCell_same _ _ _ ((World.cell?_setCell_other _ _ _ _ (by simp)).trans t1)
    go_wp2_with fail
    have BF := BF.drew
    obtain ⟨a1, a2, a3⟩ := unhide HA
    have hzw := unhide HZ2
    have nb : ¬ Rfs r (.slice va (ds.length + 1) vcap) (ds ++ [d]) (w.heap.size + 1) := fun e => by
      rcases a3 _ e with q | q | q
      · have := (unhide HH).lt _ q; omega
      · have := (unhide HO).lt _ q; omega
      · omega
    refine bodyPost_ret (v := .tuple #[.agg #[.int .i64 d.a.k, .int .i64 (ds.length : Int)], .bool true]) (by simp [results, Try.results72, go_sem, z0, z1]) rfl ?_
    refine ⟨rfl, _, a1.keep BF (fun k hk e => nb (e ▸ hk)), ?_, fun k hk => (a3 k hk).imp id (fun q => q.imp id (fun q => by omega))⟩
    have f7 := (unhide HR2).trans a2
    refine ⟨BF.os.trans f7.os, BF.tape.trans f7.tape, BF.output.trans f7.output, Nat.le_trans f7.size BF.size, fun k hk hn => (BF.block k (Nat.lt_of_lt_of_le hk f7.size) (by omega)).trans (f7.block k hk hn)⟩
set_option maxRecDepth 100000 in
set_option maxHeartbeats 3200000 in
theorem rmake_no {w : World} {r : Nat} {bud sp : Int} {rv : Value} {ds : List RD} (H : Rh w r bud sp rv ds) (hb : 0 ≤ bud ∧ bud < 9223372036854775808) (hs : 0 ≤ sp ∧ sp < 9223372036854775808) (may : Bool) (cost : Int) (hno : may = false ∨ room bud sp cost = false) (k fn cap : Int) (ia : Option Addr) (il ic : Nat) (ka : Option Addr) (kl kc : Nat) (shut : Bool) :
    Calls Try.prog 72 #[.pointer (some ⟨r, 0, none⟩), .bool may, .int .i64 cost, .agg #[.int .i64 k, .slice ia il ic, .slice ka kl kc, .int .i64 fn, .int .i64 cap, .bool shut]] w fun e w' => e = .returned (.tuple #[.agg #[.int .i64 0, .int .i64 0], .bool false]) ∧ Below w.heap.size w w' := by
  have hB : Below w.heap.size w ((w.alloc (.cells #[.int .i64 k, .slice ia il ic, .slice ka kl kc, .int .i64 fn, .int .i64 cap, .bool shut] 56)).alloc (.cells #[.int .i64 0, .int .i64 0] 33)) := ((Below.refl _ _).alloc (Nat.le_refl _) _).alloc (by simp) _
  have hz1 : (w.alloc (.cells #[.int .i64 k, .slice ia il ic, .slice ka kl kc, .int .i64 fn, .int .i64 cap, .bool shut] 56)).heap.size = w.heap.size + 1 := by simp
  obtain ⟨t0, t1⟩ := two_new (w.alloc (.cells #[.int .i64 k, .slice ia il ic, .slice ka kl kc, .int .i64 fn, .int .i64 cap, .bool shut] 56)) (.int .i64 0) (.int .i64 0) 33
  have tf : ∀ j, ((w.alloc (.cells #[.int .i64 k, .slice ia il ic, .slice ka kl kc, .int .i64 fn, .int .i64 cap, .bool shut] 56)).alloc (.cells #[.int .i64 0, .int .i64 0] 33)).frozen? ⟨w.heap.size + 1, j, none⟩ = false := fun j => by rw [← hz1]; exact frozen_new _ _ _ _
  rw [hz1] at t0 t1
  have HB := hide hB
  cases may with
  | false =>
    clear hB hz1 hno H
    go_enter Try.func72, Try.ntmps72
    go_wp2_with fail
    refine bodyPost_ret (v := .tuple #[.agg #[.int .i64 0, .int .i64 0], .bool false]) (by simp [results, Try.results72, go_sem, t0, t1]) rfl ?_
    exact ⟨rfl, unhide HB⟩
  | true =>
    have hr : room bud sp cost = false := hno.resolve_left (by simp)
    have HR : Hid (Calls Try.prog 69 #[.pointer (some ⟨r, 0, none⟩), .int .i64 cost] ((w.alloc (.cells #[.int .i64 k, .slice ia il ic, .slice ka kl kc, .int .i64 fn, .int .i64 cap, .bool shut] 56)).alloc (.cells #[.int .i64 0, .int .i64 0] 33)) fun e W1 => e = .returned (.bool false) ∧ Below w.heap.size w W1 ∧ W1.cell? ⟨w.heap.size + 1, 0, none⟩ = some (.int .i64 0) ∧ W1.cell? ⟨w.heap.size + 1, 1, none⟩ = some (.int .i64 0) ∧ ∀ j, W1.frozen? ⟨w.heap.size + 1, j, none⟩ = false) := by
      refine (room_any (H.below hB) hb hs cost).mono fun e W1 ⟨he, m, hm⟩ => ?_
      subst hm
      have fd := Fr.drewN (S := fun _ => False) (w := ((w.alloc (.cells #[.int .i64 k, .slice ia il ic, .slice ka kl kc, .int .i64 fn, .int .i64 cap, .bool shut] 56)).alloc (.cells #[.int .i64 0, .int .i64 0] 33))) m
      have hlt := World.block_lt_of_cell? _ _ t0
      exact ⟨by rw [he, hr], hB.trans (fd.below hB.size (fun _ _ e => e)), (fd.cell (a := ⟨w.heap.size + 1, 0, none⟩) hlt (fun e => e)).trans t0, (fd.cell (a := ⟨w.heap.size + 1, 1, none⟩) hlt (fun e => e)).trans t1, fun j => (fd.frozen (a := ⟨w.heap.size + 1, j, none⟩) hlt (fun e => e)).trans (tf j)⟩
    clear hB hz1 hno H t0 t1 tf
    go_enter Try.func72, Try.ntmps72
    go_wp2_with fail
    refine (unhide HR).mono ?_
    rintro e1 W1 ⟨rfl, b1, t0, t1, tf⟩
    have hl : w.heap.size + 1 < W1.heap.size := World.block_lt_of_cell? _ _ t0
    go_wp2_with fail
    refine bodyPost_ret (v := .tuple #[.agg #[.int .i64 0, .int .i64 0], .bool false]) (by simp [results, Try.results72, go_sem, t0, t1]) rfl ?_
    exact ⟨rfl, (b1.setCell (p := ⟨w.heap.size + 1, 0, none⟩) (Nat.le_succ _) _).setCell (p := ⟨w.heap.size + 1, 1, none⟩) (Nat.le_succ _) _⟩
end Go.Proofs.Ytkpngfahnpidkaa
