/-
  KeptFrames.
-/
import Derived.Test.YtfcgpafjhifogaaLFr
namespace Go.Proofs.Ytfcgpafjhifogaa
open Go.RowKit
set_option linter.unusedVariables false
set_option linter.unusedSimpArgs false
section
variable {B : Nat} {w w' : World} {g off cap : Nat} {fs : List Fm} {ys : List Value}
theorem LF.len (h : LF B w g off cap fs ys) : ys.length = fs.length := by rw [h.lr.len, List.length_map]
theorem LF.zlen (h : LF B w g off cap fs ys) : (hdM fs ys ++ (flM ys ++ mkM fs.length 64)).length = fs.length + fs.length + 64 := by rw [List.length_append, hdM_length h.len, List.length_append, flM_length, mkM_length, h.len]; omega
/-- The cells of one frame of the full row. -/
theorem LF.cells (h : LF B w g off cap fs ys) {j : Nat} {p : Fmv} (hp : (hdM fs ys ++ (flM ys ++ mkM fs.length 64))[j]? = some p) : g < w.heap.size ∧ ∀ (d : Nat) (u : Value), (enM p)[d]? = some u → w.cell? ⟨g, off + j * 3 + d, none⟩ = some u := by
  obtain ⟨b, o, c, e, _, _, hb, hc⟩ := Rx.elem zM (by have := Rx.of_ro h.row; rw [← h.zlen] at this; exact this) hp
  rw [h.zlen] at e
  cases e
  exact ⟨hb, hc⟩
theorem LF.head (h : LF B w g off cap fs ys) {i : Nat} {f : Fm} {y : Value} (hf : fs[i]? = some f) (hy : ys[i]? = some y) : (hdM fs ys ++ (flM ys ++ mkM fs.length 64))[i]? = some ⟨f.fn, f.pc, cutM y f.sl.length⟩ := by
  have hi := (List.getElem?_eq_some_iff.1 hf).1
  rw [List.getElem?_append_left (by rw [hdM_length h.len]; exact hi)]
  exact hdM_at hf hy
theorem LF.full (h : LF B w g off cap fs ys) {i : Nat} {y : Value} (hy : ys[i]? = some y) : (hdM fs ys ++ (flM ys ++ mkM fs.length 64))[fs.length + i]? = some ⟨-7, (i : Int), y⟩ := by
  have hi := (List.getElem?_eq_some_iff.1 hy).1
  rw [List.getElem?_append_right (by rw [hdM_length h.len]; omega), hdM_length h.len, Nat.add_sub_cancel_left, List.getElem?_append_left (by rw [flM_length]; exact hi)]
  exact flM_at ys i y hy
theorem LF.mark (h : LF B w g off cap fs ys) {i : Nat} (h1 : fs.length ≤ i) (h2 : i < fs.length + 64) : (hdM fs ys ++ (flM ys ++ mkM fs.length 64))[fs.length + i]? = some ⟨-7, (i : Int), .slice none 0 0⟩ := by
  rw [List.getElem?_append_right (by rw [hdM_length h.len]; omega), hdM_length h.len, Nat.add_sub_cancel_left, List.getElem?_append_right (by rw [flM_length, h.len]; exact h1), flM_length, h.len]
  have h3 : i - fs.length < 64 := by omega
  simp [mkM, h3]
  omega
theorem LF.keep (h : LF B w g off cap fs ys) (hb : Below w.heap.size w w') : LF B w' g off cap fs ys :=
  ⟨h.row.fr (Fr.of_below (S := fun _ => False) hb) (fun _ _ e => e), h.lr.move ((Fr.of_below (S := fun _ => False) hb).mono (fun _ _ e => e.elim)) (fun k hk => .inl hk), h.gb⟩
theorem LF.slots (h : LF B w g off cap fs ys) {i : Nat} {f : Fm} {y : Value} (hf : fs[i]? = some f) (hy : ys[i]? = some y) : ∃ ya yc, y = .slice ya (f.sl.length + 64) yc ∧ f.sl.length + 64 ≤ yc ∧ yc ≤ maxLen ∧ Ro w 2 y (f.sl ++ mkV 64).length (flt enI (f.sl ++ mkV 64)) ∧ Rx w 2 (.slice ya f.sl.length yc) f.sl.length (flt enI f.sl) := by
  have h1 := h.lr.el i (f.sl ++ mkV 64) y (by rw [List.getElem?_map, hf]; rfl) hy
  obtain ⟨ya, yc, e, h2, h3⟩ := h1.shape
  have h4 := h1
  rw [e, lmV_length] at h4
  rw [lmV_length] at e h2
  refine ⟨ya, yc, e, h2, h3, h1, ?_⟩
  have h5 := Rx.upto (Rx.of_ro h4) (k := f.sl.length) (c := yc) (by omega) (by omega) h3
  rw [flt_take zI, List.take_left] at h5
  exact h5
/-- What was lent can be read as the frames. -/
theorem LF.fsv (h : LF B w g off cap fs ys) (hc : fs.length ≤ cap) (hm : cap ≤ maxLen) : FsV w (.slice (some ⟨g, off, none⟩) fs.length cap) fs := by
  have hu := h.row.upto rfl (k := fs.length) (by omega)
  rw [flt_take zM, List.take_left' (hdM_length h.len)] at hu
  refine ⟨hdM fs ys, hdM_length h.len, by rw [hdM_length h.len]; exact Rx.of_ro hu, fun i f x hf hx => ?_⟩
  have hi := (List.getElem?_eq_some_iff.1 hf).1
  obtain ⟨y, hy⟩ : ∃ y, ys[i]? = some y := ⟨_, List.getElem?_eq_getElem (by rw [h.len]; exact hi)⟩
  rw [hdM_at hf hy] at hx
  cases hx
  obtain ⟨ya, yc, rfl, _, _, _, h5⟩ := h.slots hf hy
  exact ⟨rfl, rfl, h5⟩
end
theorem FsV.slotK {w : World} {a : Option Addr} {n : Nat} {cap : Nat} {l : List (Int × Int)} (h : Rx w 2 (.slice a n cap) l.length (flt enI l)) {k : Nat} {z : Int × Int} (hz : l[k]? = some z) : ∃ b o, a = some ⟨b, o, none⟩ ∧ b < w.heap.size ∧ w.cell? ⟨b, o + k * 2, none⟩ = some (.int .i64 z.1) ∧ w.cell? ⟨b, o + k * 2 + 1, none⟩ = some (.int .i64 z.2) := by
  obtain ⟨b, o, _, e, _, _, hb, hc⟩ := h.elem zI hz
  cases e
  exact ⟨b, o, rfl, hb, hc 0 _ rfl, hc 1 _ rfl⟩
set_option maxRecDepth 100000 in
set_option maxHeartbeats 6400000 in
theorem keptM_any {B : Nat} {w : World} {lv : Value} {g off cap : Nat} {fs : List Fm} {ys : List Value} (h : LF B w g off cap fs ys) (hl : FsV w lv fs) (hN : fs.length ≤ 1048576) (hS : ∀ f ∈ fs, f.sl.length ≤ 1048576) (hc : fs.length + fs.length + 64 ≤ cap) (hm : cap ≤ maxLen) :
    Calls Try.prog 21 #[.slice (some ⟨g, off, none⟩) fs.length cap, lv] w fun e w' => e = .returned (.bool true) ∧ Below w.heap.size w w' := by
  obtain ⟨a, lc, rfl, hlc, hlm⟩ := hl.shape
  have HL := hide hl
  have H := hide h
  have HS := hide hS
  have HYL := hide h.len
  obtain ⟨L, hL⟩ : ∃ L, Hid (fs.length = L) := ⟨_, hide rfl⟩
  have HZ := hide (fun (W : World) (hb : Below w.heap.size w W) (j : Nat) (p : Fmv) hp => (h.keep hb).cells (j := j) (p := p) hp)
  have HL' : Hid (FsV w (.slice a L lc) fs) := by rw [← unhide hL]; exact hl
  rw [unhide hL] at hN hc hlc ⊢
  rw [unhide hL] at HYL
  unfold maxLen at hm hlm
  clear h hl hS HL
  have d0 : (((L : Nat) : Int) != (L : Int)) = false := by simp
  have em1 : IntKind.i64.wrap (2 * (L : Int)) = 2 * (L : Int) := by go_arith
  have em2 : IntKind.i64.wrap (2 * (L : Int) + 64) = ((L + L + 64 : Nat) : Int) := by rw [show 2 * (L : Int) + 64 = ((L + L + 64 : Nat) : Int) by omega]; go_arith
  have em3 : IntKind.i64.wrap ((L : Int) + 64) = (L : Int) + 64 := by go_arith
  have n0 : (0 : Int) ≤ ((L + L + 64 : Nat) : Int) := by omega
  have n1 : ((L + L + 64 : Nat) : Int) ≤ (cap : Int) := by omega
  obtain ⟨LL, hLL⟩ : ∃ n, Hid (L + L + 64 = n) := ⟨_, hide rfl⟩
  rw [unhide hLL] at em2 n0 n1
  go_enter Try.func21, Try.ntmps21
  go_wp2_with fail
  go_loopg [7] L (fun gg t7 wr => ∃ i : Nat, Hid (i + gg = L) ∧ t7 = .int .i64 (i : Int) ∧ Hid (Below w.heap.size w wr))
  case atStart => exact ⟨0, by unfold Hid; omega, rfl, Below.refl _ _⟩
  case round =>
    obtain ⟨i, hi, rfl, hB⟩ := hrel
    by_cases hlt : i < L
    · obtain ⟨f, hf⟩ : ∃ f, fs[i]? = some f := ⟨_, List.getElem?_eq_getElem (by rw [unhide hL]; exact hlt)⟩
      obtain ⟨y, hy⟩ : ∃ y, ys[i]? = some y := ⟨_, List.getElem?_eq_getElem (by rw [unhide HYL]; exact hlt)⟩
      have hbw := unhide hB
      obtain ⟨gl, hc1⟩ := unhide HZ wr hbw i _ ((unhide H).head hf hy)
      obtain ⟨_, hc2⟩ := unhide HZ wr hbw (fs.length + i) _ ((unhide H).full hy)
      obtain ⟨ya, yc, ey, hyc, hym, hyr, hyx⟩ := ((unhide H).keep hbw).slots hf hy
      obtain ⟨fl, hfl⟩ : ∃ n, Hid (f.sl.length = n) := ⟨_, hide rfl⟩
      rw [unhide hfl] at ey hyc
      subst ey
      have z0 := hc1 0 _ rfl
      have z1 := hc1 1 _ rfl
      have z2 := hc1 2 _ rfl
      have y2 := hc2 2 _ rfl
      rw [Nat.add_zero] at z0
      simp only [cutM, unhide hfl] at z2
      obtain ⟨b, off', sa, sc, ea, hb, k0, k1, k2, hxx, hsl, hsm⟩ := ((unhide HL').below hbw (Nat.le_refl _)).three hf
      cases ea
      rw [unhide hfl] at k2 hsl
      have hfS := unhide HS f (List.mem_of_getElem? hf)
      have i0 : (0 : Int) ≤ (i : Int) := by omega
      have i1 : (i : Int) < (L : Int) := by omega
      have ewn : IntKind.i64.wrap ((L : Int) + (i : Int)) = ((fs.length + i : Nat) : Int) := by rw [show (L : Int) + (i : Int) = ((fs.length + i : Nat) : Int) by rw [unhide hL]; omega]; rw [unhide hL]; go_arith
      obtain ⟨LI, hLI⟩ : ∃ n, Hid (fs.length + i = n) := ⟨_, hide rfl⟩
      have hLI' := unhide hLI
      have n2 : (0 : Int) ≤ (LI : Int) := by omega
      have n3 : (LI : Int) < (LL : Int) := by have := unhide hLL; have := unhide hL; omega
      rw [hLI'] at ewn y2
      have HYR : Hid (Rx wr 2 (.slice ya (fl + 64) yc) (f.sl ++ mkV 64).length (flt enI (f.sl ++ mkV 64))) := Rx.of_ro hyr
      have HYX : Hid (Rx wr 2 (.slice ya fl yc) f.sl.length (flt enI f.sl)) := by rw [← unhide hfl] at *; exact hyx
      have HXX : Hid (Rx wr 2 (.slice sa fl sc) f.sl.length (flt enI f.sl)) := by rw [← unhide hfl] at *; exact hxx
      rw [unhide hfl] at hfS
      clear hc1 hc2 hyr hyx hxx hf hy hLI'
      unfold maxLen at hym hsm
      obtain ⟨Y, hY⟩ : ∃ Y, Y = wr := ⟨_, rfl⟩
      subst hY
      go_wp2_with fail
      -- the frame's box
      obtain ⟨q, hq⟩ : ∃ q, Hid (Y.heap.size = q) := ⟨_, hide rfl⟩
      obtain ⟨X, hX⟩ : ∃ X, Hid (Y.alloc (.cells #[.int .i64 f.fn, .int .i64 f.pc, .slice ya fl yc] 30) = X) := ⟨_, hide rfl⟩
      have HYB : Hid (Below Y.heap.size Y X) := by rw [← unhide hX]; exact (Below.refl _ _).alloc (Nat.le_refl _) _
      have HBX : Hid (X.heap[q]? = some (.cells #[.int .i64 f.fn, .int .i64 f.pc, .slice ya fl yc] 30)) := by rw [← unhide hX, ← unhide hq]; exact heap_alloc_new _ _
      rw [unhide hX, unhide hq]
      have HSP : Hid (∀ W, Below X.heap.size X W → W.cell? ⟨q, 0, none⟩ = some (.int .i64 f.fn) ∧ W.cell? ⟨q, 1, none⟩ = some (.int .i64 f.pc) ∧ W.cell? ⟨q, 2, none⟩ = some (.slice ya fl yc) ∧ W.cell? ⟨b, off' + i * 3, none⟩ = some (.int .i64 f.fn) ∧ W.cell? ⟨b, off' + i * 3 + 1, none⟩ = some (.int .i64 f.pc) ∧ W.cell? ⟨b, off' + i * 3 + 2, none⟩ = some (.slice sa fl sc) ∧ W.cell? ⟨g, off + LI * 3 + 2, none⟩ = some (.slice ya (fl + 64) yc)) := (have a0 := hide k0; have a1 := hide k1; have a2 := hide k2; have a3 := hide y2; fun W hW => (have hYW : Below Y.heap.size Y W := (unhide HYB).trans (hW.mono (unhide HYB).size); have hq3 := (blk_cells (blkT (unhide HBX) hW)).1; ⟨hq3 0, hq3 1, hq3 2, (hYW.cell (p := ⟨b, _, none⟩) hb).trans (unhide a0), (hYW.cell (p := ⟨b, _, none⟩) hb).trans (unhide a1), (hYW.cell (p := ⟨b, _, none⟩) hb).trans (unhide a2), (hYW.cell (p := ⟨g, _, none⟩) gl).trans (unhide a3)⟩))
      have HXW : Hid (Below w.heap.size w X) := (unhide hB).trans ((unhide HYB).mono (unhide hB).size)
      have HC15 : Hid (∀ W, Below X.heap.size X W → Calls Try.prog 15 #[.slice ya (fl + 64) yc, .slice sa fl sc] W fun e w' => e = .returned (.bool true) ∧ Below W.heap.size W w') := fun W hW => (have hYW : Below Y.heap.size Y W := (unhide HYB).trans (hW.mono (unhide HYB).size); keptV_any ((unhide HYR).below hYW (Nat.le_refl _)) ((unhide HXX).below hYW (Nat.le_refl _)) (by have := unhide hfl; omega))
      obtain ⟨c0, c1, c2, c3, c4, c5, c6⟩ := unhide HSP X (Below.refl _ _)
      have HD : Hid (Below X.heap.size X X.drew) := below_drw (Below.refl _ X)
      clear z0 z1 z2 k0 k1 k2 y2 hX
      go_region_held3 (fun w' => w'.cell? ⟨q, 0, none⟩ = some (.int .i64 f.fn) ∧ w'.cell? ⟨q, 1, none⟩ = some (.int .i64 f.pc) ∧ w'.cell? ⟨q, 2, none⟩ = some (.slice ya fl yc) ∧ w'.cell? ⟨b, off' + i * 3, none⟩ = some (.int .i64 f.fn) ∧ w'.cell? ⟨b, off' + i * 3 + 1, none⟩ = some (.int .i64 f.pc) ∧ w'.cell? ⟨b, off' + i * 3 + 2, none⟩ = some (.slice sa fl sc) ∧ w'.cell? ⟨g, off + LI * 3 + 2, none⟩ = some (.slice ya (fl + 64) yc)) (first | exact hS5 | go_keep)
        (first
         | (go_at_call 15; refine (unhide HC15 _ (unhide HD)).mono ?_; rintro e w5 ⟨rfl, hb5⟩; have hb5X : Below X.heap.size X w5 := (unhide HD).trans hb5; have hS5 := unhide HSP w5 hb5X))
      have HB5 := hide hb5X
      clear hS5 hb5 hb5X HC15 HD c0 c1 c2 c3 c4 c5 c6
      as_aux_lemma =>
        go_wp2_with fail
        obtain ⟨G0, hG0⟩ : ∃ G0 : Nat, Hid (G0 = gk) := ⟨_, hide rfl⟩
        go_loopg [9] fl (fun gg t9 wq => ∃ k : Nat, Hid (k + gg = fl) ∧ t9 = .int .i64 (k : Int) ∧ Hid (Below X.heap.size X wq))
        case atStart => exact ⟨0, by unfold Hid; omega, rfl, unhide HB5⟩
        case round =>
          obtain ⟨k, hk, rfl, hBk⟩ := hrel
          obtain ⟨c0, c1, c2, c3, c4, c5, c6⟩ := unhide HSP wr (unhide hBk)
          have lq := World.block_lt_of_cell? _ _ c2
          have lb := World.block_lt_of_cell? _ _ c5
          by_cases hkl : k < fl
          · obtain ⟨p, hp⟩ : ∃ p, f.sl[k]? = some p := ⟨_, List.getElem?_eq_getElem (by rw [unhide hfl]; exact hkl)⟩
            have hYW : Below Y.heap.size Y wr := (unhide HYB).trans ((unhide hBk).mono (unhide HYB).size)
            obtain ⟨b1, o1, e1, lb1, m0, m1⟩ := FsV.slotK ((unhide HYX).below hYW (Nat.le_refl _)) hp
            obtain ⟨b2, o2, e2, lb2, r0, r1⟩ := FsV.slotK ((unhide HXX).below hYW (Nat.le_refl _)) hp
            subst e1 e2
            have k0 : (0 : Int) ≤ (k : Int) := by omega
            have k1 : (k : Int) < (fl : Int) := by omega
            have hYW2 := hide hYW
            clear hp hYW
            go_wp2_with fail
            go_quiet (fail)
            have HB3 : Hid (Below X.heap.size X (wr.drewN nq)) := (unhide hBk).trans ((Fr.drewN (S := fun _ => False) nq).below (unhide hBk).size (fun _ _ e => e))
            go_wp2_with fail
            go_roundg (gk - 1)
            case measure => have := unhide hk; omega
            case rel => exact ⟨k + 1, by have := unhide hk; unfold Hid; omega, by go_num, HB3⟩
          · have hkf : fl = k := by have := unhide hk; omega
            subst hkf
            have HN : Hid (Below w.heap.size w wr) := (unhide HXW).trans ((unhide hBk).mono (unhide HXW).size)
            go_wp2_with fail
            go_roundg (G0 - 1)
            case measure => have h1 := unhide hG0; have h2 := unhide hi; omega
            case rel => exact ⟨i + 1, by have h1 := unhide hG0; have h2 := unhide hi; unfold Hid; omega, by go_num, HN⟩
    · as_aux_lemma =>
        have hiL : L = i := by have := unhide hi; omega
        subst hiL
        go_wp2_with fail
        go_loopg [10] (L + 64) (fun gg t10 wr => ∃ i : Nat, Hid (i + gg = L + 64) ∧ t10 = .int .i64 (i : Int) ∧ Hid (Below w.heap.size w wr))
        case atStart => exact ⟨0, by unfold Hid; omega, rfl, unhide hB⟩
        case round =>
          clear hB
          obtain ⟨i, hi2, rfl, hB⟩ := hrel
          by_cases hlt2 : i < L + 64
          · have i0 : (0 : Int) ≤ (i : Int) := by omega
            have i1 : (i : Int) < (L : Int) + 64 := by omega
            have ewn : IntKind.i64.wrap ((L : Int) + (i : Int)) = ((fs.length + i : Nat) : Int) := by rw [show (L : Int) + (i : Int) = ((fs.length + i : Nat) : Int) by rw [unhide hL]; omega]; rw [unhide hL]; go_arith
            obtain ⟨LI, hLI⟩ : ∃ n, Hid (fs.length + i = n) := ⟨_, hide rfl⟩
            have hLI' := unhide hLI
            have n2 : (0 : Int) ≤ (LI : Int) := by omega
            have n3 : (LI : Int) < (LL : Int) := by have := unhide hLL; have := unhide hL; omega
            rw [hLI'] at ewn
            have hii : ((i : Int) != (i : Int)) = false := by simp
            have h77 : ((-7 : Int) != -7) = false := rfl
            have HBA : Hid (∀ O, Below w.heap.size w (wr.alloc O)) := fun O => (unhide hB).alloc (unhide hB).size O
            by_cases hlt3 : i < L
            · obtain ⟨y, hy⟩ : ∃ y, ys[i]? = some y := ⟨_, List.getElem?_eq_getElem (by rw [unhide HYL]; exact hlt3)⟩
              obtain ⟨f, hf⟩ : ∃ f, fs[i]? = some f := ⟨_, List.getElem?_eq_getElem (by rw [unhide hL]; exact hlt3)⟩
              obtain ⟨gl, hc2⟩ := unhide HZ wr (unhide hB) (fs.length + i) _ ((unhide H).full hy)
              obtain ⟨ya, yc, ey, hyc, hym, _, _⟩ := ((unhide H).keep (unhide hB)).slots hf hy
              subst ey
              have z0 := hc2 0 _ rfl
              have z1 := hc2 1 _ rfl
              have z2 := hc2 2 _ rfl
              rw [Nat.add_zero] at z0
              rw [hLI'] at z0 z1 z2
              have g1 : decide ((L : Int) ≤ (i : Int)) = false := decide_eq_false (by omega)
              have g2 : decide (L ≤ i) = false := decide_eq_false (by omega)
              clear hc2 hf hy hLI'
              go_wp2_with fail
              go_roundg (gk - 1)
              case measure => have := unhide hi2; omega
              case rel => exact ⟨i + 1, by have := unhide hi2; unfold Hid; omega, by go_num, unhide HBA _⟩
            · obtain ⟨gl, hc2⟩ := unhide HZ wr (unhide hB) (fs.length + i) _ ((unhide H).mark (by rw [unhide hL]; omega) (by rw [unhide hL]; omega))
              have z0 := hc2 0 _ rfl
              have z1 := hc2 1 _ rfl
              have z2 := hc2 2 _ rfl
              rw [Nat.add_zero] at z0
              rw [hLI'] at z0 z1 z2
              have g1 : decide ((L : Int) ≤ (i : Int)) = true := decide_eq_true (by omega)
              have g2 : decide (L ≤ i) = true := decide_eq_true (by omega)
              clear hc2 hLI'
              go_wp2_with fail
              go_roundg (gk - 1)
              case measure => have := unhide hi2; omega
              case rel => exact ⟨i + 1, by have := unhide hi2; unfold Hid; omega, by go_num, unhide HBA _⟩
          · have hie : i = L + 64 := by have := unhide hi2; omega
            have t1 : decide ((i : Int) < (L : Int) + 64) = false := decide_eq_false (by omega)
            go_wp2_with fail
            go_ret
            exact ⟨rfl, unhide hB⟩
end Go.Proofs.Ytfcgpafjhifogaa
