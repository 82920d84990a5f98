/-
  resumed; Return.
-/
import Derived.Test.YtfcgpafjhifogaaMk
namespace Go.Proofs.Ytfcgpafjhifogaa
open Go.RowKit
set_option linter.unusedVariables false
set_option linter.unusedSimpArgs false
theorem Rx.upto {w : World} {sz n : Nat} {a : Option Addr} {cap : Nat} {xs : List Value} (h : Rx w sz (.slice a n cap) n xs) {k c : Nat} (hk : k ≤ n) (hc : k ≤ c) (hm : c ≤ maxLen) : Rx w sz (.slice a k c) k (xs.take (k * sz)) := by
  obtain ⟨h1, a', cap', e, h2, h3, h4⟩ := h
  cases e
  have hkm : k * sz ≤ n * sz := Nat.mul_le_mul_right _ hk
  refine ⟨by rw [List.length_take, h1]; omega, a, c, rfl, hc, hm, fun h0 => ?_⟩
  obtain ⟨b, off, e, hb, hc⟩ := h4 (by omega)
  refine ⟨b, off, e, hb, fun j hj => ?_⟩
  rw [hc j (by omega), List.getElem?_take, if_pos hj]
/-- append onto a row without room. -/
theorem app_full {P : Program} {w : World} {x : Value} {n m : Nat} {xs news : List Value} {size bytes : Nat} (t ty e : TypeId) (z : Value) (ht : P.underlying t = some (.slice e)) (hinf : (P.info? e).map (fun i => (i.zero, i.size, i.bytes)) = some (some z, size, bytes)) (hzs : z.cells.size = size)
    (a : Option Addr) (h : Rx w size (.slice a n n) n xs) (hx : Rx w size x m news) (h0 : 0 < m) (h63 : n + m ≤ maxLen) (hbytes : (n + m) * bytes ≤ 140737488355328) :
    ∃ c w', (Builtin.append_ #[t, t] ty #[.slice a n n, x]).run P w = .ok (.slice (some ⟨w.heap.size, 0, none⟩) (n + m) c) w' ∧ Ro w' size (.slice (some ⟨w.heap.size, 0, none⟩) (n + m) c) (n + m) (xs ++ news) ∧ Fr (fun _ => False) w w' := by
  by_cases hn : 0 < n
  · obtain ⟨i0, hi0, hz0, hz1, hz2⟩ := info_parts hinf
    obtain ⟨hxl, a', n', e', _, _, hcell⟩ := h
    cases e'
    obtain ⟨b, off, rfl, hb, hc⟩ := hcell hn
    obtain ⟨hl, xa, cap, rfl, hmc, hcm, hcell2⟩ := hx
    obtain ⟨b2, off2, rfl, hb2, hc2⟩ := hcell2 h0
    have hlen : (xs ++ news).length = (n + m) * size := by rw [List.length_append, hxl, hl, Nat.add_mul]
    have hge := grownCap_ge w (n + m) n e
    have hcm2 : grownCap w (n + m) n e ≤ maxLen := grownCap_le_maxLen w (n + m) n e h63
    have hr := run_append_grow (P := P) w t ty e i0 z ht hi0 hz0 ⟨b, off, none⟩ n n xs (by rw [hz1]; exact hxl) (fun j u hu => by
        have hj : j < n * size := by have := (List.getElem?_eq_some_iff.1 hu).1; omega
        rw [Go.WideShapes.add_plain, hc j hj, hu]) ⟨b2, off2, none⟩ m cap news (by rw [hz1]; exact hl) (fun j u hu => by
        have hj : j < m * size := by have := (List.getElem?_eq_some_iff.1 hu).1; omega
        rw [Go.WideShapes.add_plain, hc2 j hj, hu]) (by omega) (by unfold maxLen at h63; omega) (by rw [hz2]; exact growslice_fits (by omega) hbytes)
    refine ⟨_, _, hr, ⟨hlen, .inr ⟨w.heap.size, 0, _, _, e, rfl, heap_alloc_new w.drew _, by omega, hcm2, ?_, fun j hj => ?_⟩⟩, ((Fr.refl _ w).drew).alloc _⟩
    · simp only [Array.size_append, List.size_toArray, size_zeroCells, hzs, hl, hxl, ← Nat.add_mul, Nat.zero_add]
      refine Nat.mul_le_mul_right _ ?_
      omega
    · rw [Nat.zero_add, Array.getElem?_append_left (by rw [Array.size_append, List.size_toArray, List.size_toArray, hl, hxl, ← Nat.add_mul]; exact hj)]
      simp
  · obtain rfl : n = 0 := by omega
    obtain rfl : xs = [] := List.eq_nil_of_length_eq_zero (by simpa using h.1)
    obtain ⟨v', w', r1, r2, r3, r4⟩ := app_new t ty e z ht hinf hzs a hx (by omega) (by simpa using hbytes)
    obtain ⟨c, rfl⟩ := r4 h0
    rcases r2 with ⟨q, _⟩ | ⟨r2, _⟩
    · omega
    · rw [Nat.zero_add, List.nil_append]
      exact ⟨c, w', r1, r2, r3⟩
def fm0 : Fm := ⟨0, 0, []⟩
def fv0 : Fmv := ⟨0, 0, .slice none 0 0⟩
theorem OF.made {B : Nat} (w : World) (hB : B ≤ w.heap.size) (N : Nat) (hN : N ≤ maxLen) : OF B (w.alloc (.cells (madeCells (Value.agg #[.int .i64 0, .int .i64 0, .slice none 0 0]).cells (N * 3)) 30)) (.slice (some ⟨w.heap.size, 0, none⟩) N N) (List.replicate N fm0) (List.replicate N fv0) := by
  refine ⟨by simp, ?_, fun k hk => by cases hk; exact hB, fun i f x hf hx => ?_, fun i x k hx hk => ?_, fun i j x y k _ hx _ hk => ?_⟩
  · rw [List.length_replicate]
    exact made_ro enM fv0 _ 3 zM (by decide) rfl w 30 N hN
  · obtain ⟨_, e⟩ := List.getElem?_eq_some_iff.1 hf
    obtain ⟨_, e'⟩ := List.getElem?_eq_some_iff.1 hx
    rw [List.getElem_replicate] at e e'
    subst e e'
    exact ⟨rfl, rfl, by simpa [flt, fm0, fv0] using Ro.nil _ 2⟩
  · obtain ⟨_, e'⟩ := List.getElem?_eq_some_iff.1 hx
    rw [List.getElem_replicate] at e'
    subst e'
    cases hk
  · obtain ⟨_, e'⟩ := List.getElem?_eq_some_iff.1 hx
    rw [List.getElem_replicate] at e'
    subst e'
    cases hk
theorem OF.set {B : Nat} {w : World} {v : Value} {fs : List Fm} {xs : List Fmv} (h : OF B w v fs xs) {g off cap : Nat} (e : v = .slice (some ⟨g, off, none⟩) fs.length cap) {i : Nat} (hi : i < fs.length) (f : Fm) (sv : Value) (hs : Ro w 2 sv f.sl.length (flt enI f.sl))
    (hb : ∀ k, sv.ownBlock = some k → B ≤ k ∧ k ≠ g ∧ ∀ (j : Nat) (x : Fmv), xs[j]? = some x → x.sv.ownBlock ≠ some k) :
    OF B (w.setCells g (off + i * 3) (enM ⟨f.fn, f.pc, sv⟩)) v (fs.set i f) (xs.set i ⟨f.fn, f.pc, sv⟩) ∧ Fr (fun b => b = g) w (w.setCells g (off + i * 3) (enM ⟨f.fn, f.pc, sv⟩)) := by
  have hl := h.len
  subst e
  obtain ⟨_, _, e1, hcap, _⟩ := h.row.shape
  cases e1
  obtain ⟨k1, k2⟩ := h.row.sets rfl (o := off + i * 3) (m := fs.length) (vs := enM ⟨f.fn, f.pc, sv⟩) (ys := flt enM (xs.set i ⟨f.fn, f.pc, sv⟩)) (by omega) (by rw [zM]; omega) hcap (by rw [flt_length zM, List.length_set, hl]) (fun j hj => by
    rw [flt_set zM xs i _ (by omega) j, zM]
    by_cases q : i * 3 ≤ j ∧ j < i * 3 + 3
    · rw [if_pos q, if_pos (by omega)]
      congr 1
      omega
    · rw [if_neg q, if_neg (by omega)]) (fun j hj q => by omega)
  have fr : Fr (fun b => b = g) w (w.setCells g (off + i * 3) (enM ⟨f.fn, f.pc, sv⟩)) := ⟨k2.os, k2.tape, k2.output, k2.size, fun b hb hn => k2.block b hb (fun e => hn (by cases e; rfl))⟩
  refine ⟨⟨by simp [hl], by rw [List.length_set]; exact k1, h.rb, fun j q x hq hx => ?_, fun j x k hx hk => ?_, fun j1 j2 x y k hj hx hy hk => ?_⟩, fr⟩
  · rw [List.getElem?_set] at hq hx
    by_cases e : i = j
    · subst e
      rw [if_pos rfl, if_pos hi] at hq
      rw [if_pos rfl, if_pos (by omega)] at hx
      cases hq; cases hx
      exact ⟨rfl, rfl, hs.fr fr (fun k hk e => (hb k hk).2.1 e)⟩
    · rw [if_neg e] at hq hx
      obtain ⟨a1, a2, a3⟩ := h.el j q x hq hx
      exact ⟨a1, a2, a3.fr fr (fun k hk e => (h.eb j x k hx hk).2 (by rw [e]; rfl))⟩
  · rw [List.getElem?_set] at hx
    by_cases e : i = j
    · subst e
      rw [if_pos rfl, if_pos (by omega)] at hx
      cases hx
      exact ⟨(hb k hk).1, fun e => (hb k hk).2.1 (by cases e; rfl)⟩
    · rw [if_neg e] at hx
      exact h.eb j x k hx hk
  · rw [List.getElem?_set] at hx hy
    by_cases e : i = j1
    · subst e
      rw [if_pos rfl, if_pos (by omega)] at hx
      rw [if_neg (by omega)] at hy
      cases hx
      exact (hb k hk).2.2 j2 y hy
    · rw [if_neg e] at hx
      by_cases e2 : i = j2
      · subst e2
        rw [if_pos rfl, if_pos (by omega)] at hy
        cases hy
        intro q
        exact (hb k q).2.2 j1 x hx hk
      · rw [if_neg e2] at hy
        exact h.ap j1 j2 x y k hj hx hy hk
/-- Before the i-th frame is laid in. -/
def padF (fs : List Fm) (N i : Nat) : List Fm := fs.take i ++ List.replicate (N - i) fm0
theorem padF_length {fs : List Fm} {N i : Nat} (h : i ≤ fs.length) (hi : i ≤ N) : (padF fs N i).length = N := by
  unfold padF; simp; omega
theorem padF_set {fs : List Fm} {N i : Nat} {f : Fm} (hf : fs[i]? = some f) (hi : i < N) : (padF fs N i).set i f = padF fs N (i + 1) := by
  have hl := (List.getElem?_eq_some_iff.1 hf).1
  have ht : (fs.take i).length = i := by simp; omega
  unfold padF
  rw [List.set_append_right _ _ (by omega), ht, Nat.sub_self, take_push hf, List.append_assoc, show N - i = (N - (i + 1)) + 1 by omega, List.replicate_succ, List.set_cons_zero]
  rfl
/-- What is answered. -/
def RsP (w : World) (fs : List Fm) (e : Ending) (w' : World) : Prop := ∃ v' xs, e = .returned v' ∧ OF w.heap.size w' v' fs xs ∧ Below w.heap.size w w'
set_option maxRecDepth 100000 in
set_option maxHeartbeats 6400000 in
theorem resumed_any {w : World} {lv : Value} {fs : List Fm} {g : Fm} {n k : Nat} (pc : Int) (x : Int × Int) (h : FsV w lv fs) (hn : fs.length = n + 1) (hg : fs[n]? = some g) (hk : k ≤ g.sl.length) (hN : fs.length ≤ 1048576) (hS : ∀ f ∈ fs, f.sl.length ≤ 1048576) :
    Calls Try.prog 55 #[lv, .int .i64 k, .int .i64 pc, .agg #[.int .i64 x.1, .int .i64 x.2]] w (RsP w (fs.take n ++ [⟨g.fn, pc, g.sl.take k ++ [x]⟩])) := by
  obtain ⟨a, cap, rfl, hlc, hcm⟩ := h.shape
  rw [hn] at hN hlc ⊢
  have HH : Hid (FsV w (.slice a (n + 1) cap) fs) := by rw [hn] at h; exact h
  have HG := hide hg
  have HS := hide hS
  have hgs := hS g (List.mem_of_getElem? hg)
  have HN := hide hn
  obtain ⟨i3, hi3, hz3, hs3, hb3⟩ := info_parts infM
  have hmk : ∀ W : World, (Instr.makeSlice 39 (.int .i64 ((n : Int) + 1)) (.int .i64 ((n : Int) + 1))).run Try.prog W = .ok (.slice (some ⟨W.heap.size, 0, none⟩) (n + 1) (n + 1)) (W.alloc (.cells (madeCells (Value.agg #[.int .i64 0, .int .i64 0, .slice none 0 0]).cells ((n + 1) * 3)) 30)) := fun W => by
    have := run_make (P := Try.prog) W 39 30 i3 _ Try.underlying39 hi3 hz3 .i64 .i64 ((n : Int) + 1) ((n : Int) + 1) (by omega) (by omega) (by rw [hb3]; omega) (by omega)
    rw [hs3] at this
    exact this
  unfold maxLen at hcm
  obtain ⟨Z, hZ⟩ : ∃ Z, Hid (w.heap.size = Z) := ⟨_, hide rfl⟩
  have hw1 : IntKind.i64.wrap ((n : Int) + 1 - 1) = (n : Int) := by rw [show (n : Int) + 1 - 1 = (n : Int) by omega]; go_arith
  clear h hg hS hn hi3 hz3 hs3 hb3
  go_enter Try.func55, Try.ntmps55
  go_wp2_with fail
  obtain ⟨W2, hW2⟩ : ∃ W, Hid ((w.alloc (Obj.cells #[Value.int IntKind.i64 x.fst, Value.int IntKind.i64 x.snd] 41)).alloc (Obj.cells (madeCells #[Value.int IntKind.i64 0, Value.int IntKind.i64 0, Value.slice none 0 0] ((n + 1) * 3)) 30) = W) := ⟨_, hide rfl⟩
  obtain ⟨Z, hZ⟩ : ∃ Z, Hid (w.heap.size = Z) := ⟨_, hide rfl⟩
  have HW2 : Hid (Below Z w W2 ∧ W2.heap[Z]? = some (Obj.cells #[Value.int IntKind.i64 x.fst, Value.int IntKind.i64 x.snd] 41) ∧ W2.heap.size = Z + 1 + 1) := by
    rw [← unhide hW2, ← unhide hZ]
    exact ⟨Below.alloc2 w _ _, (blk2 w _ _).1, by simp only [World.size_alloc]⟩
  have HOF : Hid (OF Z W2 (.slice (some ⟨Z + 1, 0, none⟩) (n + 1) (n + 1)) (padF fs (n + 1) 0) (List.replicate (n + 1) fv0)) := by
    have := OF.made (B := w.heap.size) (w.alloc (Obj.cells #[Value.int IntKind.i64 x.fst, Value.int IntKind.i64 x.snd] 41)) (by simp only [World.size_alloc]; omega) (n + 1) (by unfold maxLen; omega)
    rw [World.size_alloc] at this
    rw [← unhide hW2, ← unhide hZ]
    exact this
  rw [unhide hW2, unhide hZ]
  clear hmk
  go_loopg [23] n (fun gg t23 wr => ∃ (i : Nat) (xs : List Fmv), Hid (i + gg = n) ∧ t23 = .int .i64 (i : Int) ∧ Hid (OF Z wr (.slice (some ⟨Z + 1, 0, none⟩) (n + 1) (n + 1)) (padF fs (n + 1) i) xs ∧ Fr (fun b => b = Z + 1) W2 wr))
  case atStart => exact ⟨0, _, by unfold Hid; omega, rfl, unhide HOF, Fr.refl _ _⟩
  case round =>
    obtain ⟨i, xs, hi, rfl, hG⟩ := hrel
    have bw : Below Z w wr := (unhide HW2).1.trans ((unhide hG).2.below (by have := (unhide HW2).2.2; omega) (fun k hk e => by omega))
    have hsz : Z + 1 + 1 ≤ wr.heap.size := by have := (unhide hG).2.size; have := (unhide HW2).2.2; omega
    by_cases hlt : i < n
    · obtain ⟨f, hf⟩ : ∃ f, fs[i]? = some f := ⟨_, List.getElem?_eq_getElem (by rw [unhide HN]; omega)⟩
      obtain ⟨b, off, sa, sc, ea, hb, k0, k1, k2, hx, hsl, hsm⟩ := ((unhide HH).below bw (by rw [unhide hZ]; exact Nat.le_refl _)).three hf
      cases ea
      unfold maxLen at hsm
      have i0 : (0 : Int) ≤ (i : Int) := by omega
      have i1 : (i : Int) < (n : Int) := by omega
      have i2 : (i : Int) < (n : Int) + 1 := by omega
      have hfs := unhide HS f (List.mem_of_getElem? hf)
      obtain ⟨X, hX⟩ : ∃ X, Hid (wr.alloc (.cells #[.int .i64 f.fn, .int .i64 f.pc, .slice sa f.sl.length sc] 30) = X) := ⟨_, hide rfl⟩
      obtain ⟨q, hq⟩ : ∃ q, Hid (wr.heap.size = q) := ⟨_, hide rfl⟩
      have hXb : Below q wr X := by rw [← unhide hX, ← unhide hq]; exact (Below.refl _ _).alloc (Nat.le_refl _) _
      have hXs : X.heap.size = q + 1 := by rw [← unhide hX, ← unhide hq]; exact World.size_alloc _ _
      obtain ⟨cq, fq, lq⟩ := blk_cells (show X.heap[q]? = some (.cells #[.int .i64 f.fn, .int .i64 f.pc, .slice sa f.sl.length sc] 30) by rw [← unhide hX, ← unhide hq]; exact heap_alloc_new wr _)
      have hdr : Below (q + 1) X X.drew := ⟨rfl, rfl, rfl, Nat.le_refl _, fun _ _ => rfl⟩
      have HC := hide (cloneV_any ((hx.below hXb (by have := unhide hq; omega)).below hdr (by omega)) hfs)
      have HXF : Hid (Fr (fun _ => False) wr X) := by rw [← unhide hX]; exact (Fr.refl _ _).alloc _
      have q0 := cq 0
      have q1 := cq 1
      have q2 := cq 2
      have hzq : Z + 1 < q := by have := unhide hq; omega
      have hne : Z + 1 ≠ q := by omega
      -- what the store wants of the world behind the call
      have HST : Hid (∀ w1, Below X.heap.size X.drew w1 → (w1.cell? ⟨q, 0, none⟩ = some (.int .i64 f.fn) ∧ w1.cell? ⟨q, 1, none⟩ = some (.int .i64 f.pc) ∧ w1.cell? ⟨q, 2, none⟩ = some (.slice sa f.sl.length sc)) ∧ (∃ y0 y1 y2, w1.cell? ⟨Z + 1, i * 3, none⟩ = some y0 ∧ w1.cell? ⟨Z + 1, i * 3 + 1, none⟩ = some y1 ∧ w1.cell? ⟨Z + 1, i * 3 + 2, none⟩ = some y2) ∧ (w1.frozen? ⟨Z + 1, i * 3, none⟩ = false ∧ w1.frozen? ⟨Z + 1, i * 3 + 1, none⟩ = false ∧ w1.frozen? ⟨Z + 1, i * 3 + 2, none⟩ = false) ∧ Z + 1 < w1.heap.size ∧ q < w1.heap.size) := fun w1 hb1 => by
        have hq1 : q < X.heap.size := by omega
        have F1 : Fr (fun _ => False) wr w1 := ((unhide HXF).drew).trans (Fr.of_below hb1)
        have hro := (unhide hG).1.row.fr F1 (fun _ _ e => e)
        rw [padF_length (by rw [unhide HN]; omega) (by omega)] at hro
        obtain ⟨g', o', c', e', _, _, hl', hcell⟩ := hro.full (by omega)
        cases e'
        have hxl := (unhide hG).1.len
        rw [padF_length (by rw [unhide HN]; omega) (by omega)] at hxl
        obtain ⟨y, hy⟩ : ∃ y, xs[i]? = some y := ⟨_, List.getElem?_eq_getElem (by omega)⟩
        have hcz := fun j (hj : j < 3) => (hcell (i * 3 + j) (by omega)).trans (flt_at zM hy j hj)
        simp only [Nat.zero_add] at hcz
        exact ⟨⟨(hb1.cell (p := ⟨q, 0, none⟩) hq1).trans (cq 0), (hb1.cell (p := ⟨q, 1, none⟩) hq1).trans (cq 1), (hb1.cell (p := ⟨q, 2, none⟩) hq1).trans (cq 2)⟩, ⟨_, _, _, hcz 0 (by omega), hcz 1 (by omega), hcz 2 (by omega)⟩, ⟨hro.free rfl _, hro.free rfl _, hro.free rfl _⟩, hl', by have := hb1.size; simp at this; omega⟩
      have HF := hide hf
      have HXS := hide hXs
      clear hx hf cq fq hdr hXb hXs bw
      go_wp2_with fail
      rw [unhide hX, unhide hq]
      go_region_held3 (fun w' => w'.cell? ⟨q, 0, none⟩ = some (.int .i64 f.fn) ∧ w'.cell? ⟨q, 1, none⟩ = some (.int .i64 f.pc) ∧ w'.cell? ⟨q, 2, none⟩ = some (.slice sa f.sl.length sc)) (first | go_keep | exact hS1) (first | (go_at_call 65; refine (unhide HC).mono ?_; rintro e w1 ⟨sv, rfl, hg1⟩; obtain ⟨hS1, ⟨y0, y1, y2, hy0, hy1, hy2⟩, ⟨hf0, hf1, hf2⟩, hl1, hl2⟩ := unhide HST w1 hg1.2.1; obtain ⟨va, vc, rfl⟩ : ∃ a c, sv = .slice a f.sl.length c := by obtain ⟨a, c, e, _⟩ := hg1.1.shape; exact ⟨a, c, e⟩))
      have F1 : Fr (fun _ => False) wr w1 := ((unhide HXF).drew).trans (Fr.of_below hg1.2.1)
      have ho1 := (unhide hG).1.fr F1 (fun _ _ _ e => e)
      have hpl := padF_length (fs := fs) (N := n + 1) (i := i) (by rw [unhide HN]; omega) (by omega)
      obtain ⟨ho2, hfr2⟩ := ho1.set (g := Z + 1) (off := 0) (cap := n + 1) (by rw [hpl]) (i := i) (by rw [hpl]; omega) f (.slice va f.sl.length vc) hg1.1 (fun b hb => by
        have h1 := hg1.2.2 b hb
        have h2 : q + 1 ≤ b := by have := unhide HXS; simp at h1; omega
        refine ⟨by omega, by omega, fun j y hy e => ?_⟩
        have := (unhide hG).1.slt hy e
        have := unhide hq
        omega)
      rw [padF_set (unhide HF) (by omega), Nat.zero_add] at ho2
      rw [Nat.zero_add] at hfr2
      have HG2 : Hid (OF Z (((w1.setCell ⟨Z + 1, i * 3, none⟩ (.int .i64 f.fn)).setCell ⟨Z + 1, i * 3 + 1, none⟩ (.int .i64 f.pc)).setCell ⟨Z + 1, i * 3 + 2, none⟩ (.slice va f.sl.length vc)) (.slice (some ⟨Z + 1, 0, none⟩) (n + 1) (n + 1)) (padF fs (n + 1) (i + 1)) (xs.set i ⟨f.fn, f.pc, .slice va f.sl.length vc⟩) ∧ Fr (fun b => b = Z + 1) W2 (((w1.setCell ⟨Z + 1, i * 3, none⟩ (.int .i64 f.fn)).setCell ⟨Z + 1, i * 3 + 1, none⟩ (.int .i64 f.pc)).setCell ⟨Z + 1, i * 3 + 2, none⟩ (.slice va f.sl.length vc))) :=
        ⟨ho2, ((unhide hG).2.trans (F1.mono (fun _ _ e => e.elim))).trans hfr2⟩
      clear ho1 ho2 hfr2 F1 hS1 hy0 hy1 hy2 hf0 hf1 hf2 hg1 HST HC q0 q1 q2 hpl
      go_wp2_with fail
      go_roundg (gk - 1)
      case measure => have := unhide hi; omega
      case rel => exact ⟨i + 1, _, by have := unhide hi; unfold Hid; omega, by go_num, HG2⟩
    · have hin : i = n := by have := unhide hi; omega
      subst hin
      obtain ⟨b, off, sa, sc, ea, hb, k0, k1, k2, hx, hsl, hsm⟩ := ((unhide HH).below bw (by rw [unhide hZ]; exact Nat.le_refl _)).three (unhide HG)
      cases ea
      have hbz : b < Z := by
        obtain ⟨b', _, _, _, ea', hb', _⟩ := (unhide HH).three (unhide HG)
        cases ea'
        rw [← unhide hZ]; exact hb'
      have hne1 : Z + 1 ≠ b := by omega
      have hne2 : Z + 1 ≠ Z := by omega
      have hdr : Below wr.heap.size wr wr.drew := ⟨rfl, rfl, rfl, Nat.le_refl _, fun _ _ => rfl⟩
      have hBZ : wr.heap[Z]? = some (Obj.cells #[Value.int IntKind.i64 x.fst, Value.int IntKind.i64 x.snd] 41) := ((unhide hG).2.block Z (by have := (unhide HW2).2.2; omega) (by omega)).trans (unhide HW2).2.1
      obtain ⟨cz, fz, lz⟩ := blk_cells hBZ
      have z0 := cz 0
      have z1 := cz 1
      obtain ⟨q, hq⟩ : ∃ q, Hid (wr.heap.size = q) := ⟨_, hide rfl⟩
      -- the slots that stay, with the value upon them
      have hxa : Rx (wr.drew.alloc (.cells #[.int .i64 x.1, .int .i64 x.2] 41)) 2 (.slice sa k k) k (flt enI (g.sl.take k)) := by
        have := ((hx.below hdr (Nat.le_refl _)).upto hk (Nat.le_refl k) (by unfold maxLen at hsm ⊢; omega)).below ((Below.refl _ wr.drew).alloc (Nat.le_refl _) (.cells #[.int .i64 x.1, .int .i64 x.2] 41)) (Nat.le_refl _)
        rw [flt_take zI] at this
        exact this
      have hxb : Rx (wr.drew.alloc (.cells #[.int .i64 x.1, .int .i64 x.2] 41)) 2 (.slice (some ⟨q, 0, none⟩) 1 1) 1 (flt enI [x]) := by
        refine ⟨rfl, _, _, rfl, Nat.le_refl _, by unfold maxLen; omega, fun _ => ⟨q, 0, rfl, by have := unhide hq; simp; omega, fun j hj => ?_⟩⟩
        have hbq : (wr.drew.alloc (.cells #[.int .i64 x.1, .int .i64 x.2] 41)).heap[q]? = some (.cells #[.int .i64 x.1, .int .i64 x.2] 41) := by rw [← unhide hq]; exact heap_alloc_new wr.drew _
        rw [(blk_cells hbq).1, Nat.zero_add]
        simp [flt, enI]
      obtain ⟨nc, w1, hrun, hro1, hfr1⟩ := app_full (P := Try.prog) 26 26 41 _ Try.underlying26 Try.info41 rfl sa hxa hxb (by omega) (by unfold maxLen; omega) (by omega)
      have hqs : (wr.drew.alloc (.cells #[.int .i64 x.1, .int .i64 x.2] 41)).heap.size = q + 1 := by simp only [World.size_alloc]; rw [← unhide hq]; rfl
      rw [hqs, ← flt_append] at hro1
      rw [hqs] at hrun
      have F1 : Fr (fun _ => False) wr w1 := (((Fr.refl _ wr).drew).alloc _).trans hfr1
      have ho1 := (unhide hG).1.fr F1 (fun _ _ _ e => e)
      have hpl := padF_length (fs := fs) (N := i + 1) (i := i) (by rw [unhide HN]; omega) (by omega)
      have hlk : (g.sl.take k ++ [x]).length = k + 1 := by simp; omega
      obtain ⟨ho2, hf2⟩ := ho1.set (g := Z + 1) (off := 0) (cap := i + 1) (by rw [hpl]) (i := i) (by rw [hpl]; omega) ⟨g.fn, pc, g.sl.take k ++ [x]⟩ (.slice (some ⟨q + 1, 0, none⟩) (k + 1) nc) (by rw [hlk]; exact hro1) (fun b' hb' => by
        have h0 := unhide hq
        have hbq : b' = q + 1 := by simpa [Value.ownBlock] using hb'.symm
        refine ⟨by omega, by omega, fun j y hy e => ?_⟩
        have := (unhide hG).1.slt hy e
        omega)
      rw [Nat.zero_add] at ho2 hf2
      have hpad : (padF fs (i + 1) i).set i ⟨g.fn, pc, g.sl.take k ++ [x]⟩ = fs.take i ++ [⟨g.fn, pc, g.sl.take k ++ [x]⟩] := by
        have ht : (fs.take i).length = i := by simp; rw [unhide HN]; omega
        unfold padF
        rw [List.set_append_right _ _ (by omega), ht, Nat.sub_self, show i + 1 - i = 0 + 1 by omega, List.replicate_succ, List.set_cons_zero]
        rfl
      rw [hpad] at ho2
      have HFIN : Hid (OF Z (((w1.setCell ⟨Z + 1, i * 3, none⟩ (.int .i64 g.fn)).setCell ⟨Z + 1, i * 3 + 1, none⟩ (.int .i64 pc)).setCell ⟨Z + 1, i * 3 + 2, none⟩ (.slice (some ⟨q + 1, 0, none⟩) (k + 1) nc)) (.slice (some ⟨Z + 1, 0, none⟩) (i + 1) (i + 1)) (fs.take i ++ [⟨g.fn, pc, g.sl.take k ++ [x]⟩]) (xs.set i ⟨g.fn, pc, .slice (some ⟨q + 1, 0, none⟩) (k + 1) nc⟩) ∧ Below Z w (((w1.setCell ⟨Z + 1, i * 3, none⟩ (.int .i64 g.fn)).setCell ⟨Z + 1, i * 3 + 1, none⟩ (.int .i64 pc)).setCell ⟨Z + 1, i * 3 + 2, none⟩ (.slice (some ⟨q + 1, 0, none⟩) (k + 1) nc))) :=
        ⟨by have := ho2; simp only [List.length_append, List.length_take, List.length_singleton] at this ⊢; exact this, bw.trans (((F1.mono (fun _ _ e => e.elim)).trans hf2).below (by omega) (fun k hk e => by omega))⟩
      -- cells of the row behind the append
      have hro2 := ho1.row
      rw [hpl] at hro2
      obtain ⟨g', o', c', e', _, _, hl', hcell⟩ := hro2.full (by omega)
      cases e'
      have hxl := (unhide hG).1.len
      rw [hpl] at hxl
      obtain ⟨y, hy⟩ : ∃ y, xs[i]? = some y := ⟨_, List.getElem?_eq_getElem (by omega)⟩
      have hcz := fun j (hj : j < 3) => (hcell (i * 3 + j) (by omega)).trans (flt_at zM hy j hj)
      simp only [Nat.zero_add] at hcz
      have y0 : w1.cell? ⟨Z + 1, i * 3, none⟩ = some (.int .i64 y.fn) := hcz 0 (by omega)
      have y1 : w1.cell? ⟨Z + 1, i * 3 + 1, none⟩ = some (.int .i64 y.pc) := hcz 1 (by omega)
      have y2 : w1.cell? ⟨Z + 1, i * 3 + 2, none⟩ = some y.sv := hcz 2 (by omega)
      have fo0 := hro2.free rfl (i * 3)
      have fo1 := hro2.free rfl (i * 3 + 1)
      have fo2 := hro2.free rfl (i * 3 + 2)
      have HK0 := (F1.cell (a := ⟨b, off + i * 3, none⟩) hb (fun e => e)).trans k0
      have HK2 := (F1.cell (a := ⟨b, off + i * 3 + 2, none⟩) hb (fun e => e)).trans k2
      have HZ0 := (F1.cell (a := ⟨Z, 0, none⟩) lz (fun e => e)).trans z0
      have HZ1 := (F1.cell (a := ⟨Z, 1, none⟩) lz (fun e => e)).trans z1
      have HRUN := hide hrun
      have i0 : (0 : Int) ≤ (i : Int) := by omega
      have i2 : (i : Int) < (i : Int) + 1 := by omega
      have kk0 : (0 : Int) ≤ (k : Int) := by omega
      have kk1 : (k : Int) ≤ (g.sl.length : Int) := by omega
      have kk2 : (k : Int) ≤ (sc : Int) := by omega
      unfold maxLen at hsm
      have hzz : Z + 1 < w1.heap.size := hl'
      obtain rfl := unhide hq
      clear hx hdr hBZ cz fz hxa hxb hrun hro1 hfr1 ho1 ho2 hf2 hro2 hcell hcz hy hpad hqs bw hl' hxl hpl hlk
      go_wp2_with fail
      go_region_held3 (fun w' => w'.cell? ⟨b, off + i * 3, none⟩ = some (.int .i64 g.fn) ∧ w'.cell? ⟨b, off + i * 3 + 2, none⟩ = some (.slice sa g.sl.length sc) ∧ w'.cell? ⟨Z, 0, none⟩ = some (.int .i64 x.1) ∧ w'.cell? ⟨Z, 1, none⟩ = some (.int .i64 x.2)) (first | go_keep | exact ⟨HK0, HK2, HZ0, HZ1⟩) ((refine step_appRun rfl _ _ (by rfl) _ _ _ (by rfl) (by rfl) (unhide HRUN) ?_))
      clear HK0 HK2 HZ0 HZ1 y0 y1 y2 fo0 fo1 fo2 k0 k1 k2 z0 z1
      go_wp2_with fail
      go_ret
      obtain rfl := unhide hZ
      exact ⟨_, _, rfl, unhide HFIN⟩
end Go.Proofs.Ytfcgpafjhifogaa
