/-
  both: a heap and the document's, loaded alike.
-/
import Derived.Test.YtbnjfofkpagblaaLBs
namespace Go.Proofs.Ytbnjfofkpagblaa
open Go.RowKit
set_option linter.unusedVariables false
set_option linter.unusedSimpArgs false
theorem slice_inj {g o n c g' o' n' c' : Nat} (h : (Value.slice (some ⟨g, o, none⟩) n c) = .slice (some ⟨g', o', none⟩) n' c') : g = g' ∧ o = o' := by
  injection h with h1 _ _
  injection h1 with h1
  injection h1 with h2 h3 _
  exact ⟨h2, h3⟩
theorem TieR.push {os : List Ob} {xs : List Obv} {R : List Value} {o : Ob} {x : Obv} {q : Value} (h : TieR os xs R) (h1 : xs.length = os.length) (h2 : R.length = os.length) (hq : ∃ g off cap, q = .slice (some ⟨g, off, none⟩) (o.its.length + 64) cap ∧ x.iv = .slice (some ⟨g, off, none⟩) o.its.length cap) : TieR (os ++ [o]) (xs ++ [x]) (R ++ [q]) := fun i o' x' q' ho hx hr => by
  by_cases hi : i < os.length
  · rw [List.getElem?_append_left hi] at ho
    rw [List.getElem?_append_left (by omega)] at hx hr
    exact h i o' x' q' ho hx hr
  · have he : i = os.length := by have := (List.getElem?_eq_some_iff.1 ho).1; simp at this; omega
    subst he
    rw [List.getElem?_append_right (by omega), Nat.sub_self] at ho
    rw [List.getElem?_append_right (by omega), h1, Nat.sub_self] at hx
    rw [List.getElem?_append_right (by omega), h2, Nat.sub_self] at hr
    cases ho; cases hx; cases hr
    exact hq
/-- The Loads' answers, told alike. -/
theorem DlP.alike {w w' : World} {bud sp : Int} {os : List Ob} {e : Ending} (h : DlP w bud sp os e w') : ∃ pa, e = .returned (.tuple #[.pointer pa, .bool (lRb os)]) ∧ Below w.heap.size w w' ∧ (lRb os = false → pa = none) ∧ (lRb os = true → ∃ r rv xs, pa = some ⟨r, 0, none⟩ ∧ Rd w.heap.size w' r (max bud 0) (max sp 0) rv os xs) := by
  obtain ⟨h1, ⟨h2, rfl⟩ | ⟨h2, r, rv, xs, rfl, h3⟩⟩ := h
  · exact ⟨none, by rw [h2], h1, fun _ => rfl, fun e => by rw [h2] at e; cases e⟩
  · exact ⟨_, by rw [h2], h1, fun e => (by rw [h2] at e; cases e), fun _ => ⟨r, rv, xs, rfl, h3⟩⟩
theorem LdP.alike {w w' : World} {bud sp : Int} {os : List Ob} {e : Ending} (h : LdP w bud sp os e w') : ∃ pa, e = .returned (.tuple #[.pointer pa, .bool (lRb os)]) ∧ Below w.heap.size w w' ∧ (∀ W : World, (binOp .neq 25 (.pointer pa) (.pointer none)).run Try.prog W = .ok (.bool (lRb os)) W) ∧ (lRb os = true → ∃ h ov ds, pa = some ⟨h, 0, none⟩ ∧ hp.Hp w' h (max bud 0) (max sp 0) ov ds ∧ ds.map (·.ob) = os ∧ ∀ k, hp.Fts h ov ds k → w.heap.size ≤ k) := by
  obtain ⟨h1, ⟨h2, rfl⟩ | ⟨h2, r, rv, xs, rfl, h3⟩⟩ := h
  · exact ⟨none, by rw [h2], h1, fun W => by rw [h2]; kernel_rfl, fun e => by rw [h2] at e; cases e⟩
  · exact ⟨_, by rw [h2], h1, fun W => by rw [h2]; kernel_rfl, fun _ => ⟨r, rv, xs, rfl, h3⟩⟩
/-- While the rooms are made. -/
structure LBS (wB : World) (os : List Ob) (i : Nat) (wr : World) (rv iv : Value) (R : List Value) (xs : List Obv) : Prop where
  bi : BI wB.heap.size wr rv iv ((os.take i).map (·.its)) R (os.take i) xs
  ti : TieR (os.take i) xs R
  b : Below wB.heap.size wB wr
/-- What both answers. -/
def BoP (w : World) (bud sp : Int) (os : List Ob) (e : Ending) (w' : World) : Prop :=
  Below w.heap.size w w' ∧ ((lRb os = false ∧ e = .returned (.tuple #[.pointer none, .pointer none, .bool true])) ∨
    (lRb os = true ∧ ∃ h ov ds r rv xs C, e = .returned (.tuple #[.pointer (some ⟨h, 0, none⟩), .pointer (some ⟨r, 0, none⟩), .bool true]) ∧ hp.Hp w' h (max bud 0) (max sp 0) ov ds ∧ ds.map (·.ob) = os ∧ Rd w.heap.size w' r (max bud 0) (max sp 0) rv os xs ∧ (r < C ∧ ∀ k, (rv.ownBlock = some k ∨ ∃ x ∈ xs, blO x k) → k < C) ∧ ∀ k, hp.Fts h ov ds k → C ≤ k))
set_option maxRecDepth 100000 in
set_option maxHeartbeats 6400000 in
theorem both_any {w : World} {lv : Value} {os : List Ob} (h : OsV w lv os) (hN : os.length ≤ 1048576) (hS : ∀ o ∈ os, o.its.length ≤ 1048576 ∧ o.keys.length ≤ 1048576) (bud sp : Int) :
    Calls Try.prog 5 #[.agg #[.int .i64 bud, .int .i64 sp, lv]] w (BoP w bud sp os) := by
  have HD : Hid (∀ O, Calls Try.prog 14 #[.int .i64 bud, .int .i64 sp, lv] (w.alloc O) (DlP (w.alloc O) bud sp os)) := fun O => dload_any (h.below (bl_box w O) (Nat.le_refl _)) hN hS bud sp
  have HO : Hid (∀ W, Below w.heap.size w W → OsV W lv os) := fun W b => h.below b (Nat.le_refl _)
  obtain ⟨a, cap, rfl, hlc, hcm⟩ := h.shape
  have HS := hide hS
  obtain ⟨L, hL⟩ : ∃ L, Hid (os.length = L) := ⟨_, hide rfl⟩
  have HNN := hide hN
  rw [unhide hL] at hN hlc HO HD ⊢
  unfold maxLen at hcm
  have HYB := hide (fun O => heap_alloc_new w O)
  clear h hS
  obtain ⟨Y, hY⟩ : ∃ Y, Hid (w.heap.size = Y) := ⟨_, hide rfl⟩
  go_enter Try.func5, Try.ntmps5
  go_wp2_with fail
  refine (unhide HD _).mono ?_
  intro e wB hDl
  obtain ⟨pa, rfl, bB, HDn, HDs⟩ := hDl.alike
  have HBB := hide (bl_past (bl_box w _) bB)
  have hYB : wB.heap[w.heap.size]? = some (.cells #[.int .i64 bud, .int .i64 sp, .slice a L cap] 24) := (bB.block _ (by simp)).trans (unhide HYB _)
  obtain ⟨MB, hMB⟩ : ∃ MB, Hid (lRb os = MB) := ⟨_, hide rfl⟩
  rw [unhide hMB] at HDn HDs ⊢
  have HY2 := hide hYB
  have HDN := hide HDn
  have HDS := hide HDs
  have HY : Hid (∀ W, Below wB.heap.size wB W → W.cell? ⟨w.heap.size, 0, none⟩ = some (.int .i64 bud) ∧ W.cell? ⟨w.heap.size, 1, none⟩ = some (.int .i64 sp) ∧ W.cell? ⟨w.heap.size, 2, none⟩ = some (.slice a L cap) ∧ w.heap.size < W.heap.size) := fun W b => by
    obtain ⟨q, _, ql⟩ := blk_cells ((b.block _ (Array.getElem?_eq_some_iff.1 (unhide HY2)).1).trans (unhide HY2))
    exact ⟨(q 0).trans rfl, (q 1).trans rfl, (q 2).trans rfl, ql⟩
  have HOB : Hid (∀ W, Below wB.heap.size wB W → OsV W (.slice a L cap) os) := fun W b => unhide HO W ((unhide HBB).trans (b.mono (unhide HBB).size))
  have HBG : Hid (∀ W, Below wB.heap.size wB W → Below w.heap.size w W) := fun W b => (unhide HBB).trans (b.mono (unhide HBB).size)
  have HWY : Hid (w.heap.size < wB.heap.size) := hide (Array.getElem?_eq_some_iff.1 (unhide HY2)).1
  clear hYB hDl HDn HDs bB HD HO HYB HY2
  go_wp2_with fail
  go_loopg [7, 8, 9, 10, 11] L (fun gg t7 t8 t9 t10 t11 wr => ∃ (i : Nat) (rv iv : Value) (R : List Value) (xs : List Obv), Hid (i + gg = L) ∧ t7 = iv ∧ t8 = rv ∧ t9 = .int .i64 (i : Int) ∧ Hid (LBS wB os i wr rv iv R xs))
  case atStart => exact ⟨0, _, _, [], [], by unfold Hid; omega, rfl, rfl, rfl, hide ⟨by simpa using BI.nil _ _, fun i o x q ho => by simp at ho, Below.refl _ _⟩⟩
  case round =>
    obtain ⟨i, rv, iv, R, xs, hi, e7, e8, rfl, hG⟩ := hrel
    obtain rfl := e7.symm
    obtain rfl := e8.symm
    obtain ⟨y0, y1, y2, yl⟩ := unhide HY wr (unhide hG).b
    by_cases hlt : i < L
    · obtain ⟨f, hf⟩ : ∃ f, os[i]? = some f := ⟨_, List.getElem?_eq_getElem (by rw [unhide hL]; exact hlt)⟩
      obtain ⟨b, off, ia, ic, ka, kc, ea, hbB, -⟩ := (unhide HOB wB (Below.refl _ _)).six hf
      cases ea
      have hfs := unhide HS f (List.mem_of_getElem? hf)
      have HSX : Hid (∀ W, Below wB.heap.size wB W → ∃ ia ic ka kc, (W.cell? ⟨b, off + i * 6, none⟩ = some (.int .i64 f.kind) ∧ W.cell? ⟨b, off + i * 6 + 1, none⟩ = some (.slice ia f.its.length ic) ∧ W.cell? ⟨b, off + i * 6 + 2, none⟩ = some (.slice ka f.keys.length kc) ∧ W.cell? ⟨b, off + i * 6 + 3, none⟩ = some (.int .i64 f.fn) ∧ W.cell? ⟨b, off + i * 6 + 4, none⟩ = some (.int .i64 f.cap) ∧ W.cell? ⟨b, off + i * 6 + 5, none⟩ = some (.bool f.shut)) ∧ Rx W 2 (.slice ia f.its.length ic) f.its.length (flt enI f.its) ∧ Rx W 1 (.slice ka f.keys.length kc) f.keys.length (flt enL f.keys) ∧ b < W.heap.size) := fun W bb => by
        obtain ⟨b', off', ia', ic', ka', kc', ea, hb, k0, k1, k2, k3, k4, k5, hx, hy, -⟩ := (unhide HOB W bb).six hf
        cases ea
        exact ⟨ia', ic', ka', kc', ⟨k0, k1, k2, k3, k4, k5⟩, hx, hy, hb⟩
      have HF := hide hf
      clear hf ia ic ka kc
      obtain ⟨ia, ic, ka, kc, ⟨k0, k1, k2, k3, k4, k5⟩, hx, hy, hb⟩ := unhide HSX wr (unhide hG).b
      have htl : (os.take i).length = i := by simp; rw [unhide hL]; omega
      have HTL := hide htl
      have i0 : (0 : Int) ≤ (i : Int) := by omega
      have i1 : (i : Int) < (L : Int) := by omega
      obtain ⟨NI, hNI⟩ : ∃ n, Hid (f.its.length = n) := ⟨_, hide rfl⟩
      have hni : NI ≤ 1048576 := by have := hfs.1; have := unhide hNI; omega
      obtain ⟨_, _, _, hxl, hxm⟩ := hx.shape
      have HLV : Hid (∀ O, Calls Try.prog 7 #[.slice ia f.its.length ic] (wr.alloc O) fun e w' => ∃ v', e = .returned v' ∧ Gx (wr.alloc O) 2 enI (f.its ++ mkV 64) v' w') := fun O => lentV_any (hx.below (bl_box wr O) (Nat.le_refl _)) (by omega)
      have HKL := hide hfs.2
      clear hx hy htl hfs hxl hxm
      rw [unhide hNI] at k1 HLV
      go_wp2_with fail
      refine (unhide HLV _).mono ?_
      rintro e w2 ⟨q, rfl, g1, g2, g3⟩
      obtain ⟨g, qo, qc, eq, hq1, hq2, hqg, _⟩ := g1.full (by rw [lmV_length]; omega)
      rw [lmV_length, unhide hNI] at eq hq1
      subst eq
      unfold maxLen at hq2
      obtain ⟨qq, qf, ql⟩ := blk_cells ((g2.block wr.heap.size (by simp)).trans (heap_alloc_new wr _))
      obtain ⟨X, hX⟩ : ∃ X, Hid (wr.heap.size = X) := ⟨_, hide rfl⟩
      have q0 := qq 0
      have q1 := qq 1
      have q2 := qq 2
      have q3 := qq 3
      have q4 := qq 4
      have q5 := qq 5
      simp only [List.getElem?_toArray, List.getElem?_cons_zero, List.getElem?_cons_succ] at q0 q1 q2 q3 q4 q5
      have hgX : X < g := by have := g3 g rfl; simp at this; have := unhide hX; omega
      have hb2 := bl_past (bl_box wr _) g2
      have HPR : Hid (∀ O, PR (w2.alloc O) f.its (.slice (some ⟨g, qo, none⟩) (NI + 64) qc)) := fun O => by
        have := g1.fr ((Fr.refl (fun _ => False) w2).alloc O) (fun _ _ e => e)
        rw [lmV_length] at this
        exact this
      have hbiR := (unhide hG).bi.r
      have hRl : R.length = i := by have := hbiR.len; rw [List.length_map, unhide HTL] at this; exact this
      have HRo : Hid (∀ O, Ro (w2.alloc O) 1 rv i (flt enV R)) := fun O => by
        have := hbiR.row.fr ((Fr.of_below (S := fun _ => False) hb2).alloc O) (fun _ _ e => e)
        rw [List.length_map, unhide HTL] at this
        exact this
      have HNC := hide (new_cells w2 #[.slice (some ⟨g, qo, none⟩) (NI + 64) qc] 30)
      have HB2 := hide hb2
      have HG1 := hide hqg
      have HQF := hide qf
      have HRL := hide hRl
      clear qq qf g1 g2 g3 hqg hbiR HLV k0 k1 k2 k3 k4 k5 hRl hb2
      rw [unhide hX] at q0 q1 q2 q3 q4 q5 ql HQF ⊢
      clear y0 y1 y2 yl
      go_wp2_with (first | (at_builtin; refine appR rfl _ _ rfl _ i R rfl (unhide HRo _) ⟨w2.heap.size, 0, none⟩ 1 (.slice (some ⟨g, qo, none⟩) (NI + 64) qc) rfl (unhide HNC) rfl (by omega) ?_))
      intro rv' w3 hr hg hat
      have hbs := (unhide HB2).size
      have hnq : ∀ (O : Obj) k, blV (.slice (some ⟨g, qo, none⟩) (NI + 64) qc) k → wr.heap.size ≤ k ∧ k < (w2.alloc O).heap.size := fun O k hk => by
        have e1 : g = k := by simpa [blV, Value.ownBlock] using hk
        have e2 := unhide hX
        have e3 := unhide HG1
        simp only [World.size_alloc]
        omega
      obtain ⟨BI3, fr3, bm3⟩ := (unhide hG).bi.addR (unhide hG).b.size ((unhide HB2).alloc hbs _) (unhide HPR _) (hnq _) hr (by rw [List.length_map, unhide HTL]) hg (by simpa using hat)
      have fz : Fr (fun k => rv.ownBlock = some k) w2 w3 := ((Fr.refl _ w2).alloc _).grown hg (fun k e => .inr e)
      have hrvX : rv.ownBlock ≠ some X := fun e => by have := ((unhide hG).bi.lt (.inl (.inl e))).2; have := unhide hX; omega
      have q0 := (fz.cell (a := ⟨X, 0, none⟩) ql hrvX).trans q0
      have q1 := (fz.cell (a := ⟨X, 1, none⟩) ql hrvX).trans q1
      have q2 := (fz.cell (a := ⟨X, 2, none⟩) ql hrvX).trans q2
      have q3 := (fz.cell (a := ⟨X, 3, none⟩) ql hrvX).trans q3
      have q4 := (fz.cell (a := ⟨X, 4, none⟩) ql hrvX).trans q4
      have q5 := (fz.cell (a := ⟨X, 5, none⟩) ql hrvX).trans q5
      have qf1 := (fz.frozen (a := ⟨X, 1, none⟩) ql hrvX).trans (unhide HQF 1)
      have qf2 := (fz.frozen (a := ⟨X, 2, none⟩) ql hrvX).trans (unhide HQF 2)
      have ql := Nat.lt_of_lt_of_le ql fz.size
      have hwX : wB.heap.size ≤ X := by have := (unhide hG).b.size; have := unhide hX; omega
      have B3 : Below wB.heap.size wB w3 := (unhide hG).b.trans (fr3.below (unhide hG).b.size (fun k hk e => by have := (unhide hG).bi.r.rb k e; omega))
      have hX2 : X < w2.heap.size := by have := unhide hX; have := hbs; have := unhide HG1; omega
      have hbmX : ¬ bim rv' iv (R ++ [.slice (some ⟨g, qo, none⟩) (NI + 64) qc]) xs X := fun e => by
        rcases bm3 X e with q | q | q
        · have := ((unhide hG).bi.lt q).2; have := unhide hX; omega
        · have : g = X := by simpa [blV, Value.ownBlock] using q
          omega
        · simp at q; omega
      obtain ⟨rva, rvc, erv, _, _⟩ := BI3.r.row.shape
      have htl1 : ((os.take i).map (·.its) ++ [f.its]).length = i + 1 := by rw [List.length_append, List.length_map, unhide HTL]; rfl
      rw [htl1] at erv
      subst erv
      -- behind the store of the items
      have B4 : Hid (∀ u, Below wB.heap.size wB (w3.setCell ⟨X, 1, none⟩ u)) := fun u => B3.trans (((Fr.refl (fun k => k = X) w3).setCell ⟨X, 1, none⟩ (.inr rfl) u).below B3.size (fun k hk e => by omega))
      obtain ⟨z0, z1, z2, zl⟩ := unhide HY w3 B3
      obtain ⟨ia3, ic3, ka3, kc3, ⟨-, -, k2, -, -, -⟩, -, -, hb3⟩ := unhide HSX w3 B3
      have HCL : Hid (∀ u, Calls Try.prog 15 #[.slice ka3 f.keys.length kc3] (w3.setCell ⟨X, 1, none⟩ u) fun e w' => ∃ v', e = .returned v' ∧ Gx (w3.setCell ⟨X, 1, none⟩ u) 1 enL f.keys v' w') := fun u => by
        obtain ⟨ia4, ic4, ka4, kc4, ⟨-, -, k24, -, -, -⟩, -, hy4, -⟩ := unhide HSX _ (unhide B4 u)
        have e2 : (w3.setCell ⟨X, 1, none⟩ u).cell? ⟨b, off + i * 6 + 2, none⟩ = some (.slice ka3 f.keys.length kc3) := by
          rw [World.cell?_setCell_other _ _ _ _ (by simp)]
          exact k2
        rw [e2] at k24
        cases k24
        exact copyL_any hy4 (by have := unhide HKL; omega)
      have hbX : b ≠ X := by omega
      have hYX : w.heap.size ≠ X := by have := unhide HWY; omega
      have HB3 := hide (And.intro BI3 (And.intro B3 hbmX))
      have HBM := hide bm3
      clear BI3 bm3 B3 hbmX hr hg hat fr3 fz HNC HRo HPR
      go_wp2_with fail
      refine (unhide HCL _).mono ?_
      rintro e w5 ⟨kv, rfl, g1, g2, g3⟩
      obtain ⟨kva, kvc, rfl, _, _⟩ := g1.shape
      obtain ⟨MK, hMK⟩ : ∃ n, Hid (f.keys.length = n) := ⟨_, hide rfl⟩
      obtain ⟨W4, hW4⟩ : ∃ W, Hid (w3.setCell ⟨X, 1, none⟩ (.slice (some ⟨g, qo, none⟩) NI qc) = W) := ⟨_, hide rfl⟩
      rw [unhide hW4] at g2 g3
      have f34 : Fr (fun k => k = X) w3 W4 := by rw [← unhide hW4]; exact (Fr.refl (fun k => k = X) w3).setCell ⟨X, 1, none⟩ (.inr rfl) _
      have hs34 : W4.heap.size = w3.heap.size := by rw [← unhide hW4]; simp [World.setCell]
      have p0 : W4.cell? ⟨X, 0, none⟩ = some (.int .i64 f.kind) := by rw [← unhide hW4, World.cell?_setCell_other _ _ _ _ (by simp)]; exact q0
      have p1 : W4.cell? ⟨X, 1, none⟩ = some (.slice (some ⟨g, qo, none⟩) NI qc) := by rw [← unhide hW4]; exact World.cell?_setCell_same _ _ _ q1
      have p2 : W4.cell? ⟨X, 2, none⟩ = some (.slice ka f.keys.length kc) := by rw [← unhide hW4, World.cell?_setCell_other _ _ _ _ (by simp)]; exact q2
      have p3 : W4.cell? ⟨X, 3, none⟩ = some (.int .i64 f.fn) := by rw [← unhide hW4, World.cell?_setCell_other _ _ _ _ (by simp)]; exact q3
      have p4 : W4.cell? ⟨X, 4, none⟩ = some (.int .i64 f.cap) := by rw [← unhide hW4, World.cell?_setCell_other _ _ _ _ (by simp)]; exact q4
      have p5 : W4.cell? ⟨X, 5, none⟩ = some (.bool f.shut) := by rw [← unhide hW4, World.cell?_setCell_other _ _ _ _ (by simp)]; exact q5
      have pf : W4.frozen? ⟨X, 2, none⟩ = false := by rw [← unhide hW4, World.frozen?_setCell]; exact qf2
      have hXW : X < W4.heap.size := by omega
      have q0 := (g2.cell (p := ⟨X, 0, none⟩) hXW).trans p0
      have q1 := (g2.cell (p := ⟨X, 1, none⟩) hXW).trans p1
      have q2 := (g2.cell (p := ⟨X, 2, none⟩) hXW).trans p2
      have q3 := (g2.cell (p := ⟨X, 3, none⟩) hXW).trans p3
      have q4 := (g2.cell (p := ⟨X, 4, none⟩) hXW).trans p4
      have q5 := (g2.cell (p := ⟨X, 5, none⟩) hXW).trans p5
      have qf2 := (World.frozen?_of_block (a := ⟨X, 2, none⟩) (g2.block X hXW)).trans pf
      have ql := Nat.lt_of_lt_of_le hXW g2.size
      -- behind the store of the keys
      have HW6 : Hid (∀ u, BI wB.heap.size (w5.setCell ⟨X, 2, none⟩ u) (.slice rva (i + 1) rvc) iv ((os.take i).map (·.its) ++ [f.its]) (R ++ [.slice (some ⟨g, qo, none⟩) (NI + 64) qc]) (os.take i) xs ∧ Fr (fun k => k = X) W4 (w5.setCell ⟨X, 2, none⟩ u) ∧ (w5.setCell ⟨X, 2, none⟩ u).heap.size = w5.heap.size) := fun u => by
        obtain ⟨c1, c2, c3⟩ := unhide HB3
        have fA : Fr (fun k => k = X) W4 (w5.setCell ⟨X, 2, none⟩ u) := (Fr.of_below g2).trans ((Fr.refl (fun k => k = X) w5).setCell ⟨X, 2, none⟩ (.inr rfl) u)
        exact ⟨(c1.keep f34 (fun k hk e => c3 (e ▸ hk))).keep fA (fun k hk e => c3 (e ▸ hk)), fA, by simp [World.setCell]⟩
      have HKR : Hid (∀ u, Ro (w5.setCell ⟨X, 2, none⟩ u) 1 (.slice kva f.keys.length kvc) f.keys.length (flt enL f.keys) ∧ ∀ k, (Value.slice kva f.keys.length kvc).ownBlock = some k → w3.heap.size ≤ k ∧ k < w5.heap.size) := fun u => by
        refine ⟨g1.fr ((Fr.refl (fun k => k = X) w5).setCell ⟨X, 2, none⟩ (.inr rfl) u) (fun k hk e => ?_), fun k hk => ⟨?_, g1.lt k hk⟩⟩
        · have := g3 k hk; omega
        · have := g3 k hk; omega
      rw [unhide hMK] at q2 ⊢
      have HRo6 : Hid (∀ u O, Ro ((w5.setCell ⟨X, 2, none⟩ u).alloc O) 6 iv i (flt enO xs)) := fun u O => by
        have := (unhide HW6 u).1.o.row.fr ((Fr.refl (fun _ => False) _).alloc O) (fun _ _ e => e)
        rw [unhide HTL] at this
        exact this
      have HNC6 := hide (fun u => new_cells (w5.setCell ⟨X, 2, none⟩ u) #[.int .i64 f.kind, .slice (some ⟨g, qo, none⟩) NI qc, .slice kva MK kvc, .int .i64 f.fn, .int .i64 f.cap, .bool f.shut] 49)
      have HS6 : Hid (∀ u, (w5.setCell ⟨X, 2, none⟩ u).heap.size = w5.heap.size) := fun u => (unhide HW6 u).2.2
      simp only [unhide HS6] at HNC6
      clear g1 g2 g3 p0 p1 p2 p3 p4 p5 pf HCL
      go_wp2_with (first | (at_builtin; refine appO rfl _ _ rfl _ i xs rfl (unhide HRo6 _ _) ⟨w5.heap.size, 0, none⟩ 1 ⟨f.kind, .slice (some ⟨g, qo, none⟩) NI qc, .slice kva MK kvc, f.fn, f.cap, f.shut⟩ rfl (unhide HNC6 _) rfl rfl (by omega) ?_))
      intro iv' w7 hr hg hat
      obtain ⟨B6, F6, Z6⟩ := unhide HW6 (.slice kva MK kvc)
      obtain ⟨R6, K6⟩ := unhide HKR (.slice kva MK kvc)
      rw [unhide hMK] at R6 K6
      obtain ⟨c1, c2, c3⟩ := unhide HB3
      have hs45 := F6.size
      obtain ⟨BI7, F7⟩ := B6.addO (o := f) (x := ⟨f.kind, .slice (some ⟨g, qo, none⟩) NI qc, .slice kva MK kvc, f.fn, f.cap, f.shut⟩) ⟨rfl, rfl, rfl, rfl, by rw [unhide hMK]; exact R6⟩ (fun k hk => ⟨by have := (K6 k hk).1; have := c2.size; omega, by rw [Z6]; exact (K6 k hk).2, fun e => by have := (c1.lt e).2; have := (K6 k hk).1; omega⟩) ((Below.refl _ _).alloc (Nat.le_refl _) _) (by have := c2.size; simp; omega) hr (by rw [unhide HTL]) hg (by simpa [Z6] using hat)
      have B7 : Below wB.heap.size wB w7 := ((c2.trans (f34.below c2.size (fun k hk e => by omega))).trans (F6.below (by have := c2.size; omega) (fun k hk e => by omega))).trans (F7.below (by have := c2.size; omega) (fun k hk e => by have := (B6.lt (.inr (.inl e))).1; omega))
      have HL7 : Hid (LBS wB os (i + 1) w7 (.slice rva (i + 1) rvc) iv' (R ++ [.slice (some ⟨g, qo, none⟩) (NI + 64) qc]) (xs ++ [⟨f.kind, .slice (some ⟨g, qo, none⟩) NI qc, .slice kva MK kvc, f.fn, f.cap, f.shut⟩])) := by
        refine ⟨?_, ?_, B7⟩
        · rw [take_push (unhide HF), List.map_append]
          exact BI7
        · rw [take_push (unhide HF)]
          exact (unhide hG).ti.push (by rw [(unhide hG).bi.o.len]) (by rw [unhide HRL, unhide HTL]) ⟨g, qo, qc, by rw [unhide hNI], by rw [unhide hNI]⟩
      clear hr hg hat BI7 F7 B7 B6 F6 Z6 R6 K6 c1 c2 c3 hs45
      go_wp2_with fail
      go_roundg (gk - 1)
      case measure => have := unhide hi; omega
      case rel => exact ⟨i + 1, _, _, _, _, by have := unhide hi; unfold Hid; omega, rfl, rfl, by go_num, HL7⟩
    · have hiL : i = L := by have := unhide hi; omega
      obtain ⟨hBI0, hTI0, hBe⟩ := unhide hG
      rw [List.take_of_length_le (by rw [unhide hL, hiL]; exact Nat.le_refl _)] at hBI0 hTI0
      have hOI := hBI0.osv hTI0
      have HLD := hide (load_any hOI (unhide HNN) (unhide HS) bud sp)
      obtain ⟨iva, ivc, eiv, hil1, hil2⟩ := hOI.shape
      rw [unhide hL] at eiv hil1
      obtain rfl : iv = .slice iva L ivc := eiv
      obtain ⟨rva, rvc, erv, hrl1, hrl2⟩ := hBI0.r.row.shape
      rw [List.length_map, unhide hL] at erv hrl1
      obtain rfl : rv = .slice rva L rvc := erv
      have HBI := hide hBI0
      have HTI := hide hTI0
      have HBe := hide hBe
      have HOI := hide hOI
      unfold maxLen at hil2 hrl2
      have e9 : ¬ i < L := hlt
      clear hBI0 hTI0 hBe hOI hG hiL hlt
      go_wp2_with fail
      refine (unhide HLD).mono ?_
      intro e w1 hLd
      obtain ⟨pb, rfl, b1, HPN, HHs⟩ := hLd.alike
      rw [unhide hMB] at HPN HHs ⊢
      have HHS := hide HHs
      have HB1 : Hid (Below wB.heap.size wB w1) := hide ((unhide HBe).trans (b1.mono (unhide HBe).size))
      have HSM : Hid (Calls Try.prog 17 #[.slice iva L ivc, .slice a L cap] w1 fun e w' => e = .returned (.bool true) ∧ Below w1.heap.size w1 w') := hide (by
        have := smOs_any ((unhide HOI).below b1 (Nat.le_refl _)) (unhide HOB w1 (unhide HB1)) (unhide HNN) (unhide HS)
        rw [Dc_true rfl] at this
        exact this)
      have HBI1 := hide ((unhide HBI).keep (Fr.of_below (S := fun _ => False) b1) (fun _ _ e => e))
      have HD : Hid (∀ k, bim (.slice rva L rvc) (.slice iva L ivc) R xs k → wB.heap.size ≤ k ∧ k < wr.heap.size) := hide (fun k hk => (unhide HBI).lt hk)
      obtain ⟨y0, y1, y2, yl⟩ := unhide HY w1 (unhide HB1)
      have dm : (MB != MB) = false := by cases MB <;> rfl
      have bq := bool_neq MB MB
      have HB01 := hide b1
      clear HHs hLd HLD b1 HOI
      go_wp2_with fail
      refine (unhide HSM).mono ?_
      rintro e w2 ⟨rfl, b2⟩
      have HB2 : Hid (Below wB.heap.size wB w2) := hide ((unhide HB1).trans (b2.mono (unhide HB1).size))
      have HBI2 := hide ((unhide HBI1).keep (Fr.of_below (S := fun _ => False) b2) (fun _ _ e => e))
      have HHS2 : Hid (MB = true → ∃ h ov ds, pb = some ⟨h, 0, none⟩ ∧ hp.Hp w2 h (max bud 0) (max sp 0) ov ds ∧ ds.map (·.ob) = os ∧ ∀ k, hp.Fts h ov ds k → wr.heap.size ≤ k) := hide (fun e => by
        obtain ⟨h, ov, ds, e1, e2, e3, e4⟩ := unhide HHS e
        exact ⟨h, ov, ds, e1, e2.below b2, e3, e4⟩)
      have HRD2 : Hid (MB = true → ∃ r rv2 xs2, pa = some ⟨r, 0, none⟩ ∧ Rd (w.heap.size) w2 r (max bud 0) (max sp 0) rv2 os xs2 ∧ ∀ k, (k = r ∨ rv2.ownBlock = some k ∨ ∃ x ∈ xs2, blO x k) → k < wB.heap.size) := hide (fun e => by
        obtain ⟨r, rv2, xs2, e1, e2⟩ := unhide HDS e
        have e3 : Rd w.heap.size wB r (max bud 0) (max sp 0) rv2 os xs2 := ⟨e2.box, e2.row.mono (fun k hk hz => ⟨by have := hz.1; simp at this; omega, hz.2⟩), by have := e2.ge; simp at this; omega⟩
        exact ⟨r, rv2, xs2, e1, e3.fr (Fr.of_below (S := fun _ => False) (unhide HB2)) (fun _ _ _ e => e), fun k hk => e2.lt hk⟩)
      have HSP0 : Hid (SPS w2 (.slice iva L ivc) R os xs 0 w2) := hide ⟨Fr.refl _ _, by rw [spl_zero]; exact (unhide HBI2).o.row⟩
      clear b2 HSM HBI1 HHS HDS y0 y1 y2 yl dm bq HPN HBI
      obtain ⟨DZ, hDZ⟩ : ∃ D, Hid (wr.heap.size = D) := ⟨_, hide rfl⟩
      obtain ⟨g1O, hg1O⟩ : ∃ g, Hid (gk = g) := ⟨_, hide rfl⟩
      rw [unhide hDZ] at HD HHS2
      go_wp2_with fail
      go_loopg [14, 15, 16, 17] L (fun gg t14 t15 t16 t17 wq => ∃ (j : Nat), Hid (j + gg = L) ∧ t14 = .int .i64 (j : Int) ∧ Hid (SPS w2 (.slice iva L ivc) R os xs j wq))
      case atStart => exact ⟨0, by unfold Hid; omega, rfl, HSP0⟩
      case round =>
        obtain ⟨j, hj, rfl, hP⟩ := hrel
        have hBq : Below wB.heap.size wB wr := (unhide HB2).trans ((unhide hP).f.below (unhide HB2).size (fun k hk e => by have := (unhide HD k (Sx.bim e)).1; omega))
        have HBq := hide hBq
        by_cases hlt : j < L
        · have hjo : j < os.length := by rw [unhide hL]; exact hlt
          obtain ⟨f, hf⟩ : ∃ f, os[j]? = some f := ⟨_, List.getElem?_eq_getElem hjo⟩
          obtain ⟨x, hx⟩ : ∃ x, xs[j]? = some x := ⟨_, List.getElem?_eq_getElem (by rw [(unhide HBI2).o.len]; exact hjo)⟩
          obtain ⟨q, hq⟩ : ∃ q, R[j]? = some q := ⟨_, List.getElem?_eq_getElem (by rw [(unhide HBI2).r.len, List.length_map]; exact hjo)⟩
          obtain ⟨g, qo, qc, eq, ex⟩ := unhide HTI j f x q hf hx hq
          obtain ⟨b, off, ia, ic, ka, kc, ea, hb, -, k1, -, -, -, -, hxi, -, -⟩ := (unhide HOB wr hBq).six hf
          cases ea
          have hfs := unhide HS f (List.mem_of_getElem? hf)
          have j0 : (0 : Int) ≤ (j : Int) := by omega
          have j1 : (j : Int) < (L : Int) := by omega
          -- the row of rooms
          obtain ⟨rg, ro, _, era, -, hxq, -, hrg, hrc, -⟩ := OW.at zV (unhide HBI2).r (i := j) (u := f.its) (by rw [List.getElem?_map, hf]; rfl)
          subst era
          rw [hq] at hxq
          cases hxq
          have r0 : wr.cell? ⟨rg, ro + j, none⟩ = some q := by
            have := hrc 0 q rfl
            rw [Nat.mul_one, Nat.add_zero] at this
            exact ((unhide hP).f.cell (a := ⟨rg, ro + j, none⟩) hrg ((unhide HBI2).sx_row rfl)).trans this
          have rl : rg < wr.heap.size := Nat.lt_of_lt_of_le hrg (unhide hP).f.size
          -- the row of objects
          obtain ⟨ig, io, eia⟩ : ∃ ig io, iva = some ⟨ig, io, none⟩ := by
            obtain ⟨ig, io, c, e, _⟩ := (unhide hP).row.full (by omega)
            cases e
            exact ⟨_, _, rfl⟩
          subst eia
          -- the room itself
          have hpr : PR wr f.its q := ((unhide HBI2).r.el j f.its q (by rw [List.getElem?_map, hf]; rfl) hq).fr (unhide hP).f (fun k hk => (unhide HBI2).sx_room hq (Nat.le_refl _) hk)
          have hrxq : Rx wr 2 q (f.its ++ mkV 64).length (flt enI (f.its ++ mkV 64)) := by
            have := Rx.of_ro hpr
            rw [lmV_length]
            exact this
          have HKV := hide (keptV_any hrxq hxi (by omega))
          obtain ⟨NI, hNI⟩ : ∃ n, Hid (f.its.length = n) := ⟨_, hide rfl⟩
          have hni : NI ≤ 1048576 := by have := hfs.1; have := unhide hNI; omega
          have hPR : Ro wr 2 q (NI + 64) (flt enI (f.its ++ mkV 64)) := by rw [← unhide hNI]; exact hpr
          have hxk : ObK w2 f x := (unhide HBI2).o.el j f x hf hx
          have hkr : Ro wr 1 x.kv f.keys.length (flt enL f.keys) := hxk.2.2.2.2.fr (unhide hP).f (fun k hk => (unhide HBI2).sx_key hx (Nat.le_refl _) hk)
          have HPR := hide hPR
          have HKR := hide hkr
          have HX := hide hx
          have HQ := hide hq
          have HEX := hide ex
          have HKB := hide hfs.2
          rw [unhide hNI] at k1 HKV eq
          subst eq
          obtain ⟨y0, y1, y2, yl⟩ := unhide HY wr hBq
          clear hf hx hq ex hfs hpr hrxq hPR hkr hxk hrc hxi
          go_wp2_with fail
          refine (unhide HKV).mono ?_
          rintro e v1 ⟨rfl, b1⟩
          have HB1v := hide b1
          obtain ⟨wqO, hwqO⟩ : ∃ W, Hid (wr = W) := ⟨_, hide rfl⟩
          obtain ⟨g2O, hg2O⟩ : ∃ g, Hid (gk = g) := ⟨_, hide rfl⟩
          have HRo1 : Hid (Ro v1 2 (.slice (some ⟨g, qo, none⟩) (NI + 64) qc) (NI + 64) (flt enI (f.its ++ mkV 64))) := hide ((unhide HPR).fr (Fr.of_below (S := fun _ => False) b1) (fun _ _ e => e))
          have HLL : Hid ((f.its ++ mkV 64).length = NI + 64) := hide (by rw [lmV_length, unhide hNI])
          clear r0 rl k1 b1 HKV HPR y0 y1 y2 yl
          go_wp2_with fail
          go_loopg [16] (NI + 64) (fun gg t16 w3 => ∃ (k : Nat) (l' : List (Int × Int)), Hid (k + gg = NI + 64) ∧ t16 = .int .i64 (k : Int) ∧ Hid (Ro w3 2 (.slice (some ⟨g, qo, none⟩) (NI + 64) qc) (NI + 64) (flt enI l') ∧ l'.length = NI + 64 ∧ Fr (fun m => blV (.slice (some ⟨g, qo, none⟩) (NI + 64) qc) m) v1 w3))
          case atStart => exact ⟨0, _, by unfold Hid; omega, rfl, hide ⟨unhide HRo1, unhide HLL, Fr.refl _ _⟩⟩
          case round =>
            obtain ⟨k, l', hk, rfl, hR⟩ := hrel
            by_cases hkl : k < NI + 64
            · obtain ⟨p, hp⟩ : ∃ p, l'[k]? = some p := ⟨_, List.getElem?_eq_getElem (by rw [(unhide hR).2.1]; exact hkl)⟩
              have hrx : Rx wr 2 (.slice (some ⟨g, qo, none⟩) (NI + 64) qc) l'.length (flt enI l') := by rw [(unhide hR).2.1]; exact Rx.of_ro (unhide hR).1
              obtain ⟨g', o', c', e1, _, _, hg', hcc⟩ := hrx.elem zI hp
              obtain ⟨rfl, rfl⟩ := slice_inj e1
              clear e1
              have z0 : wr.cell? ⟨g, qo + k * 2, none⟩ = some (.int .i64 p.1) := by have := hcc 0 _ rfl; simpa using this
              have z1 : wr.cell? ⟨g, qo + k * 2 + 1, none⟩ = some (.int .i64 p.2) := by have := hcc 1 _ rfl; simpa using this
              have zf : ∀ m, wr.frozen? ⟨g, m, none⟩ = false := fun m => (unhide hR).1.free rfl m
              have zf0 := zf (qo + k * 2)
              have zf1 := zf (qo + k * 2 + 1)
              have kk0 : (0 : Int) ≤ (k : Int) := by omega
              have kk1 : (k : Int) < ((NI + 64 : Nat) : Int) := by omega
              have HR2 : Hid (Ro ((wr.setCell ⟨g, qo + k * 2, none⟩ (.int .i64 77)).setCell ⟨g, qo + k * 2 + 1, none⟩ (.int .i64 5)) 2 (.slice (some ⟨g, qo, none⟩) (NI + 64) qc) (NI + 64) (flt enI ((l'.set k (77, p.2)).set k (77, 5))) ∧ ((l'.set k (77, p.2)).set k (77, 5)).length = NI + 64 ∧ Fr (fun m => blV (.slice (some ⟨g, qo, none⟩) (NI + 64) qc) m) v1 ((wr.setCell ⟨g, qo + k * 2, none⟩ (.int .i64 77)).setCell ⟨g, qo + k * 2 + 1, none⟩ (.int .i64 5))) := hide (by
                obtain ⟨a1, a2⟩ := (unhide hR).1.put1 zI rfl (i := k) (c := 0) (x := p) (x' := (77, p.2)) (u := .int .i64 77) hp (by omega) rfl
                obtain ⟨a3, a4⟩ := a1.put1 zI rfl (i := k) (c := 1) (x := (77, p.2)) (x' := (77, 5)) (u := .int .i64 5) (by rw [List.getElem?_set, if_pos rfl, if_pos (by rw [(unhide hR).2.1]; exact hkl)]) (by omega) rfl
                rw [Nat.add_zero] at a2 a3 a4
                refine ⟨a3, by simp [(unhide hR).2.1], (unhide hR).2.2.trans ((a2.mono (fun m _ e => ?_)).trans (a4.mono (fun m _ e => ?_)))⟩
                · simp [blV, Value.ownBlock, e]
                · simp [blV, Value.ownBlock, e])
              clear hp hrx hcc hR zf
              go_wp2_with fail
              go_roundg (gk - 1)
              case measure => have := unhide hk; omega
              case rel => exact ⟨k + 1, _, by have := unhide hk; unfold Hid; omega, by go_num, HR2⟩
            · have e8 : ¬ k < NI + 64 := hkl
              obtain ⟨v2, hv2⟩ : ∃ v, Hid (wr = v) := ⟨_, hide rfl⟩
              have HF2 : Hid (Fr (fun m => blV (.slice (some ⟨g, qo, none⟩) (NI + 64) qc) m) v1 v2) := hide (by rw [← unhide hv2]; exact (unhide hR).2.2)
              rw [unhide hv2]
              -- the row of objects and the keys, behind the first loop
              have HIR : Hid (Ro v2 6 (.slice (some ⟨ig, io, none⟩) L ivc) os.length (flt enO (spl j xs))) := hide ((((unhide hP).row.fr (Fr.of_below (S := fun _ => False) (unhide HB1v)) (fun _ _ e => e))).fr (unhide HF2) (fun m hm e => (unhide HBI2).ap m (.inl hm) (.inr ⟨_, List.mem_of_getElem? (unhide HQ), e⟩)))
              have HK2 : Hid (Ro v2 1 x.kv f.keys.length (flt enL f.keys)) := hide (((unhide HKR).fr (Fr.of_below (S := fun _ => False) (unhide HB1v)) (fun _ _ e => e)).fr (unhide HF2) (fun m hm e => (unhide HBI2).ap m (.inr ⟨x, List.mem_of_getElem? (unhide HX), hm⟩) (.inr ⟨_, List.mem_of_getElem? (unhide HQ), e⟩)))
              obtain ⟨MK, hMK⟩ : ∃ n, Hid (f.keys.length = n) := ⟨_, hide rfl⟩
              have hmk : MK ≤ 1048576 := by have := unhide HKB; have := unhide hMK; omega
              obtain ⟨kva, kvc, ekv, hkv1, hkv2⟩ := (unhide HK2).shape
              rw [unhide hMK] at ekv hkv1
              unfold maxLen at hkv2
              have HCW : Hid (∀ W, Fr (fun m => blK x m) v2 W → Ro W 6 (.slice (some ⟨ig, io, none⟩) L ivc) os.length (flt enO (spl j xs)) ∧ W.cell? ⟨ig, io + j * 6 + 2, none⟩ = some (.slice kva MK kvc) ∧ W.cell? ⟨ig, io + j * 6, none⟩ = some (.int .i64 x.kind) ∧ ig < W.heap.size ∧ W.frozen? ⟨ig, io + j * 6, none⟩ = false) := hide (fun W fW => by
                have hro := (unhide HIR).fr fW (fun m hm e => ((unhide HBI2).o.eb j x m (unhide HX) e).2.2 hm)
                have hrx : Rx W 6 (.slice (some ⟨ig, io, none⟩) L ivc) (spl j xs).length (flt enO (spl j xs)) := by
                  have hln : (spl j xs).length = os.length := by unfold spl; rw [List.length_mapIdx, (unhide HBI2).o.len]
                  rw [hln]
                  exact Rx.of_ro hro
                obtain ⟨g', o', c', e1, _, _, hg', hcc⟩ := hrx.elem zO (i := j) (p := x) (by rw [spl_at (Nat.le_refl _)]; exact unhide HX)
                obtain ⟨rfl, rfl⟩ := slice_inj e1
                have h2 := hcc 2 _ rfl
                have h0 := hcc 0 _ rfl
                rw [ekv] at h2
                rw [Nat.add_zero] at h0
                exact ⟨hro, h2, h0, hg', hro.free (by rw [unhide hL]) _⟩)
              have HK3 : Hid (Ro v2 1 (.slice kva MK kvc) MK (flt enL f.keys)) := hide (by have := unhide HK2; rw [ekv, unhide hMK] at this; exact this)
              have HBK : Hid (∀ m, blK x m ↔ (Value.slice kva MK kvc).ownBlock = some m) := hide (fun m => by unfold blK; rw [ekv])
              clear ekv HK2 HIR hR HRo1 HLL
              obtain ⟨g3O, hg3O⟩ : ∃ g, Hid (gk = g) := ⟨_, hide rfl⟩
              go_wp2_with fail
              go_loopg [17] MK (fun gg t17 w4 => ∃ (k : Nat) (l' : List Int), Hid (k + gg = MK) ∧ t17 = .int .i64 (k : Int) ∧ Hid (Ro w4 1 (.slice kva MK kvc) MK (flt enL l') ∧ l'.length = MK ∧ Fr (fun m => blK x m) v2 w4))
              case atStart => exact ⟨0, _, by unfold Hid; omega, rfl, hide ⟨unhide HK3, unhide hMK, Fr.refl _ _⟩⟩
              case round =>
                obtain ⟨n, l', hn, rfl, hR⟩ := hrel
                obtain ⟨-, c2, c0, cl, cf⟩ := unhide HCW wr (unhide hR).2.2
                by_cases hnl : n < MK
                · obtain ⟨p, hp⟩ : ∃ p, l'[n]? = some p := ⟨_, List.getElem?_eq_getElem (by rw [(unhide hR).2.1]; exact hnl)⟩
                  obtain ⟨kg, ko, ekk⟩ : ∃ kg ko, kva = some ⟨kg, ko, none⟩ := by
                    obtain ⟨kg, ko, c, e, _⟩ := (unhide hR).1.full (by omega)
                    cases e
                    exact ⟨_, _, rfl⟩
                  subst ekk
                  have hrx : Rx wr 1 (.slice (some ⟨kg, ko, none⟩) MK kvc) l'.length (flt enL l') := by rw [(unhide hR).2.1]; exact Rx.of_ro (unhide hR).1
                  obtain ⟨g', o', c', e1, _, _, hg', hcc⟩ := hrx.elem zL hp
                  obtain ⟨rfl, rfl⟩ := slice_inj e1
                  clear e1
                  have z0 : wr.cell? ⟨kg, ko + n, none⟩ = some (.int .i64 p) := by have := hcc 0 _ rfl; rwa [Nat.mul_one, Nat.add_zero] at this
                  have zf0 : wr.frozen? ⟨kg, ko + n, none⟩ = false := (unhide hR).1.free rfl _
                  have kk0 : (0 : Int) ≤ (n : Int) := by omega
                  have kk1 : (n : Int) < (MK : Int) := by omega
                  have HR2 : Hid (∀ y : Int, Ro (wr.setCell ⟨kg, ko + n, none⟩ (.int .i64 y)) 1 (.slice (some ⟨kg, ko, none⟩) MK kvc) MK (flt enL (l'.set n y)) ∧ (l'.set n y).length = MK ∧ Fr (fun m => blK x m) v2 (wr.setCell ⟨kg, ko + n, none⟩ (.int .i64 y))) := hide (fun y => by
                    obtain ⟨a1, a2⟩ := (unhide hR).1.put1 zL rfl (i := n) (c := 0) (x := p) (x' := y) (u := .int .i64 y) hp (by omega) rfl
                    rw [Nat.mul_one, Nat.add_zero] at a1 a2
                    refine ⟨a1, by simp [(unhide hR).2.1], (unhide hR).2.2.trans (a2.mono (fun m _ e => ?_))⟩
                    rw [unhide HBK m, e]
                    rfl)
                  clear hp hrx hcc hR c0 cf
                  go_wp2_with fail
                  go_roundg (gk - 1)
                  case measure => have := unhide hn; omega
                  case rel => exact ⟨n + 1, _, by have := unhide hn; unfold Hid; omega, by go_num, unhide HR2 _⟩
                · have e6 : ¬ n < MK := hnl
                  have hst := (unhide HBI2)
                  have HST : Hid (SPS w2 (.slice (some ⟨ig, io, none⟩) L ivc) R os xs (j + 1) (wr.setCell ⟨ig, io + j * 6, none⟩ (.int .i64 77))) := hide (by
                    have := SPS.step (unhide HBI2) (unhide hP) (unhide HX) (unhide HQ) (unhide HB1v) (unhide HF2) (unhide hR).2.2 (ig := ig) (io := io) (ic := ivc) (by rw [unhide hL])
                    rw [Nat.add_zero] at this
                    exact this)
                  clear hR hst
                  go_wp2_with fail
                  go_roundg (g2O - 1)
                  case measure => have := unhide hj; have := unhide hg2O; omega
                  case rel => exact ⟨j + 1, by have := unhide hj; have := unhide hg2O; unfold Hid; omega, by go_num, HST⟩
        · have e7 : ¬ j < L := hlt
          have HBW := hide (unhide HBG wr hBq)
          have hfD : Fr (fun k => wB.heap.size ≤ k ∧ k < DZ) w2 wr := (unhide hP).f.mono (fun k _ e => unhide HD k (Sx.bim e))
          cases MB with
          | false =>
            have HE : Hid (BoP w bud sp os (.returned (.tuple #[.pointer none, .pointer none, .bool true])) wr) := hide ⟨unhide HBW, .inl ⟨unhide hMB, rfl⟩⟩
            clear hP hfD HBq hBq HRD2 HHS2
            go_wp2_with fail
            go_ret3
            exact unhide HE
          | true =>
            obtain ⟨h, ov, ds, rfl, H2, hag, hF⟩ := unhide HHS2 rfl
            obtain ⟨r, rv2, xs2, rfl, R2, hRl⟩ := unhide HRD2 rfl
            have H3 : hp.Hp wr h (max bud 0) (max sp 0) ov ds := H2.keep hfD (fun k hk e => by have := hF k hk; omega)
            have R3 : Rd w.heap.size wr r (max bud 0) (max sp 0) rv2 os xs2 := R2.keep hfD (fun k hk e => by have := hRl k hk; omega)
            have hbd : ∀ d ∈ ds, d.its.length ≤ 4096 ∧ d.keys.length ≤ 4096 := fun d hd => lRb_bounds (unhide hMB) d.ob (by rw [← hag]; exact List.mem_map.2 ⟨d, hd, rfl⟩)
            have HAL := hide (alike_any H3 R3 hag (unhide HNN) hbd)
            have hDA : wB.heap.size ≤ DZ := by have := (unhide HBe).size; have := unhide hDZ; omega
            have HE : Hid (∀ W, Below wr.heap.size wr W → BoP w bud sp os (.returned (.tuple #[.pointer (some ⟨h, 0, none⟩), .pointer (some ⟨r, 0, none⟩), .bool true])) W) := hide (fun W b => ⟨bl_past (unhide HBW) b, .inr ⟨unhide hMB, h, ov, ds, r, rv2, xs2, wB.heap.size, rfl, H3.below b, hag, R3.below b, ⟨hRl r (.inl rfl), fun k hk => hRl k (.inr hk)⟩, fun k hk => by have := hF k hk; omega⟩⟩)
            clear hP hfD HBq hBq HRD2 HHS2 H2 hag hF R2 hRl H3 R3 hbd
            go_wp2_with fail
            refine (unhide HAL).mono ?_
            rintro e w9 ⟨rfl, b9⟩
            have HE9 := hide (unhide HE w9 b9)
            clear b9
            go_wp2_with fail
            go_ret3
            exact unhide HE9
end Go.Proofs.Ytbnjfofkpagblaa
