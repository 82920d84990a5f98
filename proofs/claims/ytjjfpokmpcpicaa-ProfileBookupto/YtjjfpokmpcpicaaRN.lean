/-
  The document's New.
-/
import Derived.Test.YtjjfpokmpcpicaaBk70
import Derived.Test.YtjjfpokmpcpicaaPCp
namespace Go.Proofs.Ytjjfpokmpcpicaa
open Go.RowKit
set_option linter.unusedVariables false
set_option linter.unusedSimpArgs false
theorem Gx.onn {T : Type} {w wr w' : World} {sz : Nat} {en : T → List Value} {l : List T} {v : Value} (h : Gx w sz en l v wr) (k : Below wr.heap.size wr w') : Gx w sz en l v w' :=
  ⟨h.1.fr (Fr.of_below (S := fun _ => False) k) (fun _ _ e => e), bl_past h.2.1 k, h.2.2⟩
theorem box4n (w : World) (cs : Array Value) (t1 : TypeId) : Below w.heap.size w (w.alloc (.cells cs t1)) := (Below.refl _ w).alloc (Nat.le_refl _) _
theorem le_sumN : ∀ {l : List Nat} {n : Nat}, n ∈ l → n ≤ l.sum
  | a :: r, n, h => by
    rw [List.sum_cons]
    rcases List.mem_cons.1 h with rfl | h
    · omega
    · have := le_sumN h; omega
def newL (f : List (List Sp)) (i n : Nat) : List Sp := (List.range n).map (fun j => atP f (i : Int) ((j : Nat) : Int))
theorem newL_len (f : List (List Sp)) (i n : Nat) : (newL f i n).length = n := by simp [newL]
theorem newL_at {f : List (List Sp)} {i n j : Nat} {x : Sp} (h : (newL f i n)[j]? = some x) : atP f (i : Int) (j : Int) = x := by
  have hk := (List.getElem?_eq_some_iff.1 h).1
  rw [newL_len] at hk
  simp [newL, hk] at h
  exact h
theorem newP_row {sh : List Nat} {f : List (List Sp)} {i n : Nat} (h : sh[i]? = some n) : (newP sh f)[i]? = some (newL f i n) := newP_at h
set_option maxRecDepth 100000 in
set_option maxHeartbeats 12800000 in
theorem refNew_any {w : World} {pv av : Value} {sh : List Nat} {f : List (List Sp)} (hp : PgL w pv sh) (ha : PfV w av f) (hL : sh.length ≤ 5864062014634) (hsum : sh.sum ≤ 5864062014634) :
    Calls Try.prog 9 #[pv, .agg #[av]] w fun e w' => ∃ gv vs, e = .returned (.agg #[gv]) ∧ SO (fun k => w.heap.size ≤ k) w' gv (newP sh f) vs ∧ Below w.heap.size w w' := by
  obtain ⟨cv, fa, xs, rfl, hx1, hx2, ⟨ca, cn, cc, rfl⟩, hx4⟩ := hp
  obtain ⟨a, acap, rfl, ha1, ha2⟩ := ha.shape
  have HA := hide (fun W (hW : Below w.heap.size w W) => ha.below hW (Nat.le_refl _))
  have HX := hide (fun i x (hx : xs[i]? = some x) => hx2.elem zF hx)
  obtain ⟨ra, rc, rfl, hr1, hr2⟩ := hx2.shape
  obtain ⟨NF, hNF⟩ : ∃ NF, Hid (sh.length = NF) := ⟨_, hide rfl⟩
  obtain ⟨FL, hFL⟩ : ∃ FL, Hid (f.length = FL) := ⟨_, hide rfl⟩
  have hxl : xs.length = NF := by rw [hx1]; exact unhide hNF
  rw [hxl] at HX hr1 ⊢
  rw [unhide hFL] at HA ha1 ⊢
  have HX1 := hide hx1
  have HX4 := hide hx4
  have HSM := hide hsum
  rw [unhide hNF] at hL
  unfold maxLen at ha2 hr2
  clear hx1 hx2 hx4 ha hxl hsum
  obtain ⟨P1, hP1⟩ : ∃ P1, Hid (w.alloc (.cells #[.slice ca cn cc, .slice ra NF rc] 25) = P1) := ⟨_, hide rfl⟩
  have hps : P1.heap.size = w.heap.size + 1 := by rw [← unhide hP1]; simp
  have HPS := hide hps
  have HPB : Hid (Below w.heap.size w P1) := by rw [← unhide hP1]; exact (Below.refl _ w).alloc (Nat.le_refl _) _
  have HP0 : Hid (P1.heap[w.heap.size]? = some (.cells #[.slice ca cn cc, .slice ra NF rc] 25)) := by rw [← unhide hP1]; exact heap_alloc_new w _
  have HST := hide (NS.start1 P1 (.slice a FL acap))
  rw [show ([] : List (List Sp)) = (newP sh f).take 0 from rfl] at HST
  go_enter Try.func9, Try.ntmps9
  go_wp2_with fail
  rw [unhide hP1]
  (try rw [← hps])
  clear hps
  go_loopg [6] NF (fun gg t6 wr => ∃ (i : Nat) (gv : Value) (vs : List Value), Hid (i + gg = NF) ∧ t6 = .int .i64 (i : Int) ∧ Hid (NS P1 [.slice a FL acap] ((newP sh f).take i) gv vs wr))
  case atStart => exact ⟨0, _, _, by unfold Hid; omega, rfl, HST⟩
  case round =>
    clear HST
    obtain ⟨i, gv, vs, hi, rfl, hS⟩ := hrel
    have HBW := hide (bl_past (unhide HPB) (unhide hS).bl)
    obtain ⟨c0, f0, z0⟩ := blk_cells (((unhide hS).bl.block _ (Array.getElem?_eq_some_iff.1 (unhide HP0)).1).trans (unhide HP0))
    obtain ⟨c1, f1, z1⟩ := blk_cells ((unhide hS).bs 0 _ rfl)
    obtain ⟨c2, f2, z2⟩ := blk_cells (unhide hS).b1
    obtain ⟨c3, f3, z3⟩ := blk_cells (unhide hS).b2
    have q0 := c0 1
    have q1 := c1 0
    have q2 := c2 0
    have q3 := c3 0
    have g2 := f2 0
    have g3 := f3 0
    simp at q0 q1 q2 q3 g2 g3 z0 z1 z2 z3
    clear c0 c1 c2 c3 f0 f1 f2 f3
    have i0 : (0 : Int) ≤ (i : Int) := by omega
    by_cases hlt : i < NF
    · have i1 : (i : Int) < (NF : Int) := by omega
      obtain ⟨x, hx⟩ : ∃ x, xs[i]? = some x := ⟨_, List.getElem?_eq_getElem (by rw [unhide HX1, unhide hNF]; exact hlt)⟩
      obtain ⟨n, hn⟩ : ∃ n, sh[i]? = some n := ⟨_, List.getElem?_eq_getElem (by rw [unhide hNF]; exact hlt)⟩
      obtain ⟨b, off, cap, eb, _, _, hbl, hcs⟩ := unhide HX i x hx
      cases eb
      obtain ⟨xa, xc, ha', hn', hc', ex1, ex2⟩ := unhide HX4 i n x hn hx
      obtain ⟨x0, x1, x2, x3, x4⟩ := x
      simp only at ex1 ex2
      subst ex1 ex2
      have HC3 : Hid (∀ W, Below w.heap.size w W → W.cell? ⟨b, off + i * 5 + 3, none⟩ = some (.slice xa n xc)) := fun W hW => (hW.cell (p := ⟨b, off + i * 5 + 3, none⟩) hbl).trans (hcs 3 _ rfl)
      have HN := hide hn
      have hnb : n ≤ 5864062014634 := Nat.le_trans (le_sumN (List.mem_of_getElem? hn)) (unhide HSM)
      obtain ⟨m, hmm⟩ : ∃ m, Hid (newL f i n = m) := ⟨_, hide rfl⟩
      have hml : m.length = n := by rw [← unhide hmm]; exact newL_len _ _ _
      have HML := hide hml
      clear hcs hx hn hml
      have HSY := hide (fun W (hW : Below wr.heap.size wr W) => (show W.cell? ⟨w.heap.size, 1, none⟩ = some (.slice (some ⟨b, off, none⟩) NF rc) ∧ W.cell? ⟨P1.heap.size, 0, none⟩ = some (.slice a FL acap) from ⟨(hW.cell (p := ⟨w.heap.size, 1, none⟩) z0).trans q0, (hW.cell (p := ⟨P1.heap.size, 0, none⟩) z1).trans q1⟩))
      have HG : Hid (Gx wr 4 enS (m.take 0) (.slice none 0 0) wr) := ⟨by simpa [flt] using Ro.nil _ _, Below.refl _ _, by simp [Value.ownBlock]⟩
      obtain ⟨G0, hG0⟩ : ∃ G0 : Nat, Hid (G0 = gk) := ⟨_, hide rfl⟩
      go_wp2_with fail
      clear q0 q1 q2 q3 g2 g3 z0 z1 z2
      obtain ⟨Y, hY⟩ : ∃ Y : World, Y = wr := ⟨_, rfl⟩
      subst hY
      go_loopg [7, 8] n (fun g t7 t8 wq => ∃ (j : Nat) (cv : Value), Hid (j + g = n) ∧ t7 = cv ∧ t8 = .int .i64 (j : Int) ∧ Hid (Gx Y 4 enS (m.take j) cv wq))
      case atStart => exact ⟨0, _, by unfold Hid; omega, rfl, rfl, HG⟩
      case round =>
        clear HG
        obtain ⟨j, cv, hj, hcv, rfl, hG⟩ := hrel
        have HBW2 := hide (bl_past (unhide HBW) (unhide hG).2.1)
        obtain ⟨s0, s1⟩ := unhide HSY _ (unhide hG).2.1
        have k3 := unhide HC3 _ (unhide HBW2)
        by_cases hjt : j < n
        · have hcv2 := hcv.symm
          subst hcv2
          have hjl : j < m.length := by rw [unhide HML]; exact hjt
          obtain ⟨x, hx⟩ : ∃ x, m[j]? = some x := ⟨_, List.getElem?_eq_getElem hjl⟩
          have hxe : atP f (i : Int) (j : Int) = x := newL_at (n := n) (by rw [unhide hmm]; exact hx)
          have HRA := hide (refAt_any (unhide HA _ (unhide HBW2)) (i : Int) (j : Int))
          rw [hxe] at HRA
          obtain ⟨x0', x1', x2', x3'⟩ := x
          unfold spV at HRA
          simp only at HRA
          have j0 : (0 : Int) ≤ (j : Int) := by omega
          have j1 : (j : Int) < (n : Int) := by omega
          have htl : (m.take j).length = j := by simp; omega
          have HLB : Hid ((m.take j).length ≤ 5864062014700) := by rw [htl]; unfold Hid; omega
          have HXX := hide hx
          clear htl hx hxe hjl
          go_wp2_with fail
          clear s0 s1 k3
          refine (unhide HRA).mono ?_
          rintro e w3 ⟨rfl, b3⟩
          have HG3 := hide ((unhide hG).onn b3)
          clear b3
          have HG4 := hide ((unhide HG3).onn (box4n w3 #[.int .i64 x0', .int .u16 x1', .int .u16 x2', .int .i64 x3'] 56))
          have HNC : Hid (∀ j z, (enS ⟨x0', x1', x2', x3'⟩)[j]? = some z → ((w3.alloc (.cells #[.int .i64 x0', .int .u16 x1', .int .u16 x2', .int .i64 x3'] 56)).alloc (.cells #[.int .i64 x0', .int .u16 x1', .int .u16 x2', .int .i64 x3'] 56)).cell? ((⟨w3.heap.size + 1, 0, none⟩ : Addr).add j) = some z) := by
            have := new_cells (w3.alloc (.cells #[.int .i64 x0', .int .u16 x1', .int .u16 x2', .int .i64 x3'] 56)) #[.int .i64 x0', .int .u16 x1', .int .u16 x2', .int .i64 x3'] 56
            simp only [World.size_alloc] at this
            exact this
          go_wp2_with (first | (at_builtin; refine appS rfl _ _ rfl _ (m.take j) rfl ((unhide HG4).1.keep (fun g hg => Below.heap_alloc _ _ _ ((unhide HG4).1.lt g hg))) ⟨w3.heap.size + 1, 0, none⟩ 1 ⟨x0', x1', x2', x3'⟩ rfl (unhide HNC) (unhide HLB) ?_))
          intro v' w' hr hg hat
          have HG7 := hide ((unhide HG4).push hr (by simp) hg (by simpa using hat))
          rw [← take_push (unhide HXX)] at HG7
          clear hr hg hat HNC
          go_wp2_with fail
          go_roundg (gk - 1)
          case measure => have := unhide hj; omega
          case rel => exact ⟨j + 1, v', by have := unhide hj; unfold Hid; omega, rfl, by go_num, HG7⟩
        · have hjN : j = n := by have := unhide hj; omega
          subst hjN
          have HLS := hide ((unhide hS).on (unhide hG).2.1)
          have HG1 := hide (unhide hG)
          rw [List.take_of_length_le (by rw [unhide HML]; exact Nat.le_refl _)] at HG1
          obtain ⟨na, nc, en, hn1, hn2⟩ := (unhide HG1).1.shape
          rw [unhide HML] at en
          rw [en] at hcv
          subst hcv
          have HR5 := hide (unhide HG1).1
          have hnbk := (unhide HG1).2.2
          rw [en] at HR5 hnbk
          have HNB := hide hnbk
          have HBY := hide (unhide HG1).2.1
          obtain ⟨c3, f3, z3⟩ := blk_cells (unhide HLS).b2
          have q3 := c3 0
          have g3 := f3 0
          simp at q3 g3 z3
          obtain ⟨ga, gc, eg, hg1, hg2⟩ := (unhide HLS).ow.row.shape
          have htl : ((newP sh f).take i).length = i := by rw [List.length_take, newP_len, unhide hNF]; omega
          rw [htl] at eg hg1
          subst eg
          have HOW := hide (unhide HLS).ow.row
          rw [htl] at HOW
          have hvl : vs.length = i := by have := (unhide HLS).ow.len; omega
          have HVL := hide hvl
          have HLB : Hid (vs.length ≤ 5864062014700) := by rw [hvl]; unfold Hid; omega
          have HOW2 : Hid (Ro wr 1 (.slice ga i gc) vs.length (flt enV vs)) := by rw [hvl]; exact HOW
          have j1 : ¬ (j : Int) < (j : Int) := by omega
          have j0 : (0 : Int) ≤ (j : Int) := by omega
          clear c3 f3 hG hnbk en hvl HG1 HOW
          go_wp2_with (first | (at_builtin; refine appR rfl _ _ rfl _ vs rfl ((unhide HOW2).keep (fun g hg => Below.heap_alloc _ _ _ ((unhide HOW2).lt g hg))) ⟨wr.heap.size, 0, none⟩ 1 (.slice na j nc) rfl rfl (new_cells _ _ _) (unhide HLB) ?_))
          intro v' w' hr hg hat
          obtain ⟨va, vc, ev, hv1, hv2⟩ := hr.shape
          subst ev
          have HLN : Hid (NS P1 [.slice a FL acap] ((newP sh f).take (i + 1)) (.slice va (vs.length + 1) vc) (vs ++ [.slice na j nc]) (w'.setCell ⟨P1.heap.size + 1 + 1, 0, none⟩ (.slice va (vs.length + 1) vc))) := by
            rw [take_push (newP_row (f := f) (unhide HN)), unhide hmm]
            have hb1 : Below wr.heap.size wr (wr.alloc (.cells #[.slice na j nc] 53)) := (Below.refl _ wr).alloc (Nat.le_refl _) _
            refine (unhide hS).push (bl_past (unhide HBY) hb1) (u := .slice na j nc) (l := m) ?_ (fun k hk => ?_) hr ?_ hg (by simpa using hat)
            · exact (unhide HR5).fr (Fr.of_below (S := fun _ => False) hb1) (fun _ _ e => e)
            · exact ⟨unhide HNB k hk, Nat.lt_of_lt_of_le ((unhide HR5).lt k hk) hb1.size⟩
            · rw [unhide HVL, htl]
          have fw : Fr (fun k => (Value.slice ga i gc).ownBlock = some k) (wr.alloc (.cells #[.slice na j nc] 53)) w' := (Fr.refl _ _).grown hg (fun k e => .inr e)
          have hgb : ∀ k, (Value.slice ga i gc).ownBlock = some k → P1.heap.size + 1 + 2 ≤ k := (unhide hS).ow.rb
          have hz2 : P1.heap.size + 1 + 1 < (wr.alloc (.cells #[.slice na j nc] 53)).heap.size := by simp; omega
          have y2 : w'.cell? ⟨P1.heap.size + 1 + 1, 0, none⟩ = some (.slice ga i gc) := by
            refine (fw.cell (a := ⟨P1.heap.size + 1 + 1, 0, none⟩) hz2 (fun e => by have := hgb (P1.heap.size + 1 + 1) e; omega)).trans ?_
            exact (World.cell?_of_block (Below.heap_alloc _ _ _ z3)).trans q3
          have y3 : w'.frozen? ⟨P1.heap.size + 1 + 1, 0, none⟩ = false := by
            refine (fw.frozen (a := ⟨P1.heap.size + 1 + 1, 0, none⟩) hz2 (fun e => by have := hgb (P1.heap.size + 1 + 1) e; omega)).trans ?_
            exact (World.frozen?_of_block (Below.heap_alloc _ _ _ z3)).trans g3
          have y4 := Nat.lt_of_lt_of_le hz2 fw.size
          clear hr hg hat fw hgb hz2 HR5 HNB HBY HLS q3 g3 z3 HOW2 HLB htl s0 s1 k3
          go_wp2_with fail
          go_roundg (G0 - 1)
          case measure => have h1 := unhide hG0; have h2 := unhide hi; omega
          case rel => exact ⟨i + 1, _, _, by have h1 := unhide hG0; have h2 := unhide hi; unfold Hid; omega, by go_num, HLN⟩
    · have hiL : i = NF := by have := unhide hi; omega
      subst hiL
      have HF := hide (fun u => (unhide hS).fin u)
      rw [List.take_of_length_le (by rw [newP_len, unhide hNF]; exact Nat.le_refl _)] at HF
      obtain ⟨ga, gc, eg, _, _⟩ := (unhide HF (.slice none 0 0)).1.row.shape
      subst eg
      have e1 : ¬ (i : Int) < (i : Int) := by omega
      clear hS
      go_wp2_with fail
      refine bodyPost_ret (v := .agg #[.slice ga (newP sh f).length gc]) ?_ rfl ?_
      · rw [results_cell_one rfl]
        go_simp
      · have h9 := (unhide HF (.slice ga (newP sh f).length gc))
        first | exact ⟨_, vs, rfl, h9.1.mono (fun k _ hk => by have := unhide HPS; omega), bl_past (unhide HPB) h9.2⟩ | exact ⟨_, rfl, ⟨vs, h9.1.mono (fun k _ hk => by have := unhide HPS; omega)⟩, bl_past (unhide HPB) h9.2⟩ | exact ⟨⟨_, rfl, vs, h9.1.mono (fun k _ hk => by have := unhide HPS; omega)⟩, bl_past (unhide HPB) h9.2⟩
end Go.Proofs.Ytjjfpokmpcpicaa
