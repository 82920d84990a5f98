/-
  FramesUnwind: its law.
-/
import Derived.Test.YtfcgpafjhifogaaSh
namespace Go.Proofs.Ytfcgpafjhifogaa
open Go.RowKit
set_option linter.unusedVariables false
set_option linter.unusedSimpArgs false
theorem ctN_app {p : Pg} {fs : List Fm} {f : Fm} {x : Int × Int} : ∀ n, n ≤ fs.length → ctN p (fs ++ [f]) x n = ctN p fs x n
  | 0, _ => rfl
  | n + 1, h => by
    have e : (fs ++ [f])[n]? = fs[n]? := List.getElem?_append_left (by omega)
    have e2 : (fs ++ [f]).take n = fs.take n := List.take_append_of_le_length (by omega)
    rw [ctN, ctN, e, e2, ctN_app n (by omega)]
theorem ct_some {p : Pg} {fs : List Fm} {f : Fm} {x : Int × Int} {k : Nat} {t : Int} (h : tk p f = some (k, t)) : ct p (fs ++ [f]) x = some (fs ++ [⟨f.fn, t, f.sl.take k ++ [x]⟩]) := by
  rw [ct, List.length_append, List.length_singleton, ctN_some (f := f) (by simp) h]
  simp
theorem ct_none {p : Pg} {fs : List Fm} {f : Fm} {x : Int × Int} (h : tk p f = none) : ct p (fs ++ [f]) x = ct p fs x := by
  rw [ct, List.length_append, List.length_singleton, ctN_none (f := f) (by simp) h, ctN_app _ (Nat.le_refl _)]
  rfl
theorem ctN_len {p : Pg} {fs gs : List Fm} {x : Int × Int} : ∀ n, n ≤ fs.length → ctN p fs x n = some gs → gs.length ≤ n ∧ ∃ m f k t, m < n ∧ fs[m]? = some f ∧ tk p f = some (k, t) ∧ gs = fs.take m ++ [⟨f.fn, t, f.sl.take k ++ [x]⟩]
  | 0, _, h => by cases h
  | n + 1, hn, h => by
    obtain ⟨f, hf⟩ : ∃ f, fs[n]? = some f := ⟨_, List.getElem?_eq_getElem (by omega)⟩
    cases e : tk p f with
    | none =>
      rw [ctN_none hf e] at h
      obtain ⟨h1, m, g, k, t, h2, h3⟩ := ctN_len n (by omega) h
      exact ⟨by omega, m, g, k, t, by omega, h3⟩
    | some kt =>
      obtain ⟨k, t⟩ := kt
      rw [ctN_some hf e] at h
      cases h
      exact ⟨by simp; omega, n, f, k, t, by omega, hf, e, rfl⟩
/-- What is left when a value was taken: some first frames, and the one that takes it. -/
theorem ct_at {p : Pg} {fs gs : List Fm} {x : Int × Int} (h : ct p fs x = some gs) : ∃ m f k t, m < fs.length ∧ fs[m]? = some f ∧ tk p f = some (k, t) ∧ gs = fs.take m ++ [⟨f.fn, t, f.sl.take k ++ [x]⟩] := (ctN_len _ (Nat.le_refl _) h).2
/-- The same bounds behind it. -/
theorem ct_bound {p : Pg} {fs gs : List Fm} {x : Int × Int} (h : ct p fs x = some gs) {N : Nat} (hN : fs.length ≤ N) (hS : ∀ f ∈ fs, f.sl.length < N) : gs.length ≤ N ∧ ∀ f ∈ gs, f.sl.length ≤ N := by
  obtain ⟨m, f, k, t, h1, h2, h3, rfl⟩ := ct_at h
  refine ⟨by simp; omega, fun g hg => ?_⟩
  rcases List.mem_append.1 hg with q | q
  · have := hS g (List.mem_of_mem_take q); omega
  · rw [List.mem_singleton] at q
    subst q
    have := hS f (List.mem_of_getElem? h2)
    simp
    omega
/-- append of one frame, in a region that draws. -/
theorem step_appM {w : World} {ops : Array Oper} {o : Oper} {a : Act} {K : Act → World → Prop} {Q : Exit → Act → World → Prop} {E : Prop} (hw : Region.wanted o (yielded ops a.tmps) = true) (s x : Operand)
    (ho : o.op = .call { callee := .builtin .append, args := #[s, x], argTypes := #[39, 39] }) (v u : Value) (hs : a.eval s = v) (hx : a.eval x = u) (n : Nat) (l : List Fmv) (p : Fmv)
    (hr : Ro w 3 v n (flt enM l)) (hu : Rx w 3 u 1 (flt enM [p])) (h1 : p.sv.oneCell' = true) (hN : n ≤ 3000000)
    (h : ∀ v' w', Ro w' 3 v' (n + 1) (flt enM l ++ enM p) → w.grownBy w' v.ownBlock → (v'.ownBlock = v.ownBlock ∨ v'.ownBlock = some w.heap.size) → K (a.put o.dst v') w') :
    if Region.wanted o (yielded ops a.tmps) = true then Oper.wp Try.prog o a w K Q else E := by
  rw [flt_one] at hu
  obtain ⟨v', w', hrun, h2, h3, h4⟩ := Ro.appX 39 o.type 30 _ Try.underlying39 infM rfl (by omega) hr hu (by intro u hu; simp only [enM, List.mem_cons, List.not_mem_nil, or_false] at hu; rcases hu with rfl | rfl | rfl <;> first | assumption | rfl) (by unfold maxLen; omega) (by omega)
  rw [if_pos hw]
  unfold Oper.wp
  simp [execOp, ho, resolve, invoke, builtin, hs, hx, hrun, Result.andThen]
  exact h v' w' h2 h3 h4
/-- One frame more, as it can be read. -/
theorem OF.pushV {B : Nat} {wr w2 : World} {v v' sv : Value} {fs : List Fm} {xs : List Fmv} {f : Fm} {m : Nat} (h : OF B wr v fs xs) (hr : Ro w2 3 v' m (flt enM xs ++ enM ⟨f.fn, f.pc, sv⟩)) (hm : m = fs.length + 1) (hF : Fr (fun k => v.ownBlock = some k) wr w2) (hs : Rx w2 2 sv f.sl.length (flt enI f.sl)) : FsV w2 v' (fs ++ [f]) := by
  subst hm
  have hl := h.len
  refine ⟨xs ++ [⟨f.fn, f.pc, sv⟩], by simp [h.len], by rw [List.length_append, flt_append, flt_one, hl]; exact Rx.of_ro hr, fun i g x hf hx => ?_⟩
  by_cases q : i < fs.length
  · rw [List.getElem?_append_left q] at hf
    rw [List.getElem?_append_left (by omega)] at hx
    obtain ⟨e1, e2, e3⟩ := h.el i g x hf hx
    exact ⟨e1, e2, Rx.of_ro (e3.fr hF (fun k hk e => (h.eb i x k hx hk).2 e))⟩
  · have hi : i = fs.length := by have := (List.getElem?_eq_some_iff.1 hf).1; simp at this; omega
    subst hi
    rw [List.getElem?_append_right (Nat.le_refl _), Nat.sub_self] at hf
    rw [List.getElem?_append_right (by omega), hl, Nat.sub_self] at hx
    cases hf; cases hx
    exact ⟨rfl, rfl, hs⟩
/-- What stays while the law goes on. -/
structure UwI (P T F : Nat) (pa pb : Value) (a : Option Addr) (N cap : Nat) (sa : Option Addr) (sn sc : Nat) (p : Pg) (fs : List Fm) (f : Fm) (x y : Int × Int) (X : World) : Prop where
  bp : X.heap[P]? = some (.cells #[pa, pb] 25)
  bt : X.heap[T]? = some (.cells #[.int .i64 f.fn, .int .i64 f.pc, .slice sa sn sc, .int .i64 x.1, .int .i64 x.2, .int .i64 y.1, .int .i64 y.2] 75)
  bf : X.heap[F]? = some (.cells #[.int .i64 f.fn, .int .i64 f.pc, .slice sa sn sc] 30)
  pg : PgV X (.agg #[pa, pb]) p
  fl : FsV X (.slice a N cap) fs
  sl : Rx X 2 (.slice sa sn sc) f.sl.length (flt enI f.sl)
theorem UwI.below {P T F : Nat} {pa pb : Value} {a : Option Addr} {N cap : Nat} {sa : Option Addr} {sn sc : Nat} {p : Pg} {fs : List Fm} {f : Fm} {x y : Int × Int} {X Y : World} (h : UwI P T F pa pb a N cap sa sn sc p fs f x y X) (hb : Below X.heap.size X Y) : UwI P T F pa pb a N cap sa sn sc p fs f x y Y :=
  ⟨blkT h.bp hb, blkT h.bt hb, blkT h.bf hb, h.pg.below hb (Nat.le_refl _), h.fl.below hb (Nat.le_refl _), h.sl.below hb (Nat.le_refl _)⟩
theorem UwI.cells {P T F : Nat} {pa pb : Value} {a : Option Addr} {N cap : Nat} {sa : Option Addr} {sn sc : Nat} {p : Pg} {fs : List Fm} {f : Fm} {x y : Int × Int} {X : World} (h : UwI P T F pa pb a N cap sa sn sc p fs f x y X) :
    X.cell? ⟨P, 0, none⟩ = some pa ∧ X.cell? ⟨P, 1, none⟩ = some pb ∧ X.cell? ⟨T, 3, none⟩ = some (.int .i64 x.1) ∧ X.cell? ⟨T, 4, none⟩ = some (.int .i64 x.2) ∧ X.cell? ⟨F, 0, none⟩ = some (.int .i64 f.fn) ∧ X.cell? ⟨F, 1, none⟩ = some (.int .i64 f.pc) ∧ X.cell? ⟨F, 2, none⟩ = some (.slice sa sn sc) ∧ P < X.heap.size ∧ T < X.heap.size ∧ F < X.heap.size :=
  ⟨(blk_cells h.bp).1 0, (blk_cells h.bp).1 1, (blk_cells h.bt).1 3, (blk_cells h.bt).1 4, (blk_cells h.bf).1 0, (blk_cells h.bf).1 1, (blk_cells h.bf).1 2, (blk_cells h.bp).2.2, (blk_cells h.bt).2.2, (blk_cells h.bf).2.2⟩
theorem bool_eqlF : ∀ (b c : Bool) (w : World), (binOp .eql 4 (.bool b) (.bool c)).run Try.prog w = .ok (.bool (b == c)) w := fun b c w => by cases b <;> cases c <;> kernel_rfl
set_option maxRecDepth 100000 in
set_option maxHeartbeats 6400000 in
theorem unwindLaw {w : World} {pv lv sv : Value} {p : Pg} {fs : List Fm} {f : Fm} (x y : Int × Int) (h : PgV w pv p) (hl : FsV w lv fs) (hf : Rx w 2 sv f.sl.length (flt enI f.sl)) (hN : p.funcs.length ≤ 1048576) (hO : ∀ k g, fnAt p k = some g → g.hs.length ≤ 1048576 ∧ g.locals < 9223372036854775808) (hL : fs.length < 1048576) (hS : ∀ g ∈ fs, g.sl.length < 1048576) (hSf : f.sl.length < 1048576) :
    Calls Try.prog 7 #[pv, lv, .agg #[.int .i64 f.fn, .int .i64 f.pc, sv, .int .i64 x.1, .int .i64 x.2, .int .i64 y.1, .int .i64 y.2]] w fun e w' => e = .returned (.bool true) ∧ Below w.heap.size w w' := by
  obtain ⟨pa, pb, rfl⟩ : ∃ a b, pv = .agg #[a, b] := by obtain ⟨a, b, e, _⟩ := h; exact ⟨a, b, e⟩
  obtain ⟨paa, pan, pac, epa⟩ : ∃ a n c, pa = .slice a n c := by
    obtain ⟨_, _, e, ⟨_, a, c, e2, _⟩, _⟩ := h
    cases e; exact ⟨a, _, c, e2⟩
  obtain ⟨pba, pbn, pbc, epb⟩ : ∃ a n c, pb = .slice a n c := by
    obtain ⟨_, _, e, _, hfs⟩ := h
    obtain ⟨a, c, e2, _⟩ := hfs.at
    cases e; exact ⟨a, _, c, e2⟩
  subst epa epb
  obtain ⟨a, cap, rfl, hlc, hcm⟩ := hl.shape
  obtain ⟨sa, sc, rfl⟩ : ∃ a c, sv = .slice a f.sl.length c := by obtain ⟨_, a, c, e, _⟩ := hf; exact ⟨a, c, e⟩
  have HP := hide h
  have HL := hide hl
  have HSL := hide hf
  have HS := hide hS
  have HO := hide hO
  obtain ⟨N, hNN⟩ : ∃ N, Hid (fs.length = N) := ⟨_, hide rfl⟩
  obtain ⟨sn, hsn⟩ : ∃ N, Hid (f.sl.length = N) := ⟨_, hide rfl⟩
  have HL' : Hid (FsV w (.slice a N cap) fs) := by rw [← unhide hNN]; exact hl
  have HSL' : Hid (Rx w 2 (.slice sa sn sc) f.sl.length (flt enI f.sl)) := by rw [← unhide hsn]; exact hf
  rw [unhide hNN] at hL hlc ⊢
  rw [unhide hsn] at hSf ⊢
  clear h hl hf hS hO HL HSL
  have HSW := hide shown_any
  go_enter Try.func7, Try.ntmps7
  go_wp2_with fail
  refine (unhide HSW _).mono ?_
  rintro e w1 ⟨rfl, hb1⟩
  obtain ⟨W0, hW0⟩ : ∃ W0, Hid (((w.alloc (.cells #[.slice paa pan pac, .slice pba pbn pbc] 25)).alloc (.cells #[.int .i64 f.fn, .int .i64 f.pc, .slice sa sn sc, .int .i64 x.1, .int .i64 x.2, .int .i64 y.1, .int .i64 y.2] 75)) = W0) := ⟨_, hide rfl⟩
  have hb1' : Below W0.heap.size W0 w1 := by rw [← unhide hW0]; exact hb1
  obtain ⟨k1, k2⟩ := blk2 w (.cells #[.slice paa pan pac, .slice pba pbn pbc] 25) (.cells #[.int .i64 f.fn, .int .i64 f.pc, .slice sa sn sc, .int .i64 x.1, .int .i64 x.2, .int .i64 y.1, .int .i64 y.2] 75)
  rw [unhide hW0] at k1 k2
  have hb0 : Below w.heap.size w W0 := by rw [← unhide hW0]; exact Below.alloc2 w _ _
  have hbw1 : Below w.heap.size w w1 := hb0.trans (hb1'.mono hb0.size)
  obtain ⟨t1, t2, t3⟩ := blk_cells (blkT k2 hb1')
  have t10 := t1 0
  have t11 := t1 1
  have t12 := t1 2
  have HI1 : Hid (w1.heap[w.heap.size]? = some (.cells #[.slice paa pan pac, .slice pba pbn pbc] 25) ∧ w1.heap[w.heap.size + 1]? = some (.cells #[.int .i64 f.fn, .int .i64 f.pc, .slice sa sn sc, .int .i64 x.1, .int .i64 x.2, .int .i64 y.1, .int .i64 y.2] 75)) := ⟨blkT k1 hb1', blkT k2 hb1'⟩
  have HBW := hide hbw1
  clear t1 t2 k1 k2 hb0 hbw1 hb1' hb1 hW0 HSW
  go_wp2_with fail
  obtain ⟨P, hP⟩ : ∃ P, Hid (w.heap.size = P) := ⟨_, hide rfl⟩
  obtain ⟨T, hT⟩ : ∃ T, Hid (w.heap.size + 1 = T) := ⟨_, hide rfl⟩
  obtain ⟨F, hF⟩ : ∃ F, Hid (w1.heap.size = F) := ⟨_, hide rfl⟩
  obtain ⟨X, hX⟩ : ∃ X, Hid (w1.alloc (.cells #[.int .i64 f.fn, .int .i64 f.pc, .slice sa sn sc] 30) = X) := ⟨_, hide rfl⟩
  have HXB : Hid (Below w.heap.size w X) := by rw [← unhide hX]; exact (unhide HBW).alloc (unhide HBW).size _
  have HU : Hid (UwI P T F (.slice paa pan pac) (.slice pba pbn pbc) a N cap sa sn sc p fs f x y X) := by
    have hk : Below w1.heap.size w1 X := by rw [← unhide hX]; exact (Below.refl _ _).alloc (Nat.le_refl _) _
    rw [← unhide hP, ← unhide hT, ← unhide hF]
    exact ⟨blkT (unhide HI1).1 hk, blkT (unhide HI1).2 hk, by rw [← unhide hX]; exact heap_alloc_new _ _, (unhide HP).below (unhide HXB) (Nat.le_refl _), (unhide HL').below (unhide HXB) (Nat.le_refl _), (unhide HSL').below (unhide HXB) (Nat.le_refl _)⟩
  obtain ⟨B0, hB0⟩ : ∃ B0, Hid (Below w.heap.size w = B0) := ⟨_, hide rfl⟩
  rw [unhide hX, unhide hT, unhide hP, unhide hF]
  clear hX HBW HI1 HP HL' HSL' t10 t11 t12 t3
  have HFIN : Hid (∀ Y, Below X.heap.size X Y → Below w.heap.size w Y) := fun Y hb => (unhide HXB).trans (hb.mono (unhide HXB).size)
  have HSf : Hid (f.sl.length ≤ 1048576) := by have := unhide hsn; unfold Hid; omega
  have HfN : Hid (fs.length ≤ 1048576) := by have := unhide hNN; unfold Hid; omega
  -- the copy of all, and one more
  have HC22 := hide (fun (Y : World) (hb : Below X.heap.size X Y) => copyMs_any ((unhide HU).below hb).fl (unhide HfN) (fun g hg => Nat.le_of_lt (unhide HS g hg)))
  have HC41 := hide (fun (Y : World) (hb : Below X.heap.size X Y) => copyM_any (v := .agg #[.int .i64 f.fn, .int .i64 f.pc, .slice sa sn sc]) ⟨_, rfl, ((unhide HU).below hb).sl⟩ (unhide HSf))
  have HSP := hide (fun (Y : World) (hb : Below X.heap.size X Y) => ((unhide HU).below hb).cells)
  have HD : Hid (Below X.heap.size X X.drew) := below_drw (Below.refl _ X)
  obtain ⟨g0, g1, g2, g3, g4, g5, g6, lP, lT, lF⟩ := (unhide HU).cells
  go_region_held3 (fun w' => w'.cell? ⟨F, 0, none⟩ = some (.int .i64 f.fn) ∧ w'.cell? ⟨F, 1, none⟩ = some (.int .i64 f.pc) ∧ w'.cell? ⟨F, 2, none⟩ = some (.slice sa sn sc)) (first | go_keep | exact hS5 | exact hS4 | exact hS3)
    (first
     | (go_at_call 22; refine (unhide HC22 _ (unhide HD)).mono ?_; rintro e w3 ⟨v3, xs3, rfl, ho3, hb3⟩; have hb3X : Below X.heap.size X w3 := (unhide HD).trans hb3; have hS3 : w3.cell? ⟨F, 0, none⟩ = some (.int .i64 f.fn) ∧ w3.cell? ⟨F, 1, none⟩ = some (.int .i64 f.pc) ∧ w3.cell? ⟨F, 2, none⟩ = some (.slice sa sn sc) := (have q := unhide HSP w3 hb3X; ⟨q.2.2.2.2.1, q.2.2.2.2.2.1, q.2.2.2.2.2.2.1⟩))
     | (go_at_call 41; refine (unhide HC41 _ hb3X).mono ?_; rintro e w4 ⟨sv4, rfl, hg4⟩; obtain ⟨va4, vc4, esv4, _⟩ := hg4.1.shape; subst esv4; have hb4X : Below X.heap.size X w4 := hb3X.trans (hg4.2.1.mono hb3X.size); have hS4 : w4.cell? ⟨F, 0, none⟩ = some (.int .i64 f.fn) ∧ w4.cell? ⟨F, 1, none⟩ = some (.int .i64 f.pc) ∧ w4.cell? ⟨F, 2, none⟩ = some (.slice sa sn sc) := (have q := unhide HSP w4 hb4X; ⟨q.2.2.2.2.1, q.2.2.2.2.2.1, q.2.2.2.2.2.2.1⟩))
     | (refine step_appM (by rfl) _ _ rfl _ _ rfl rfl _ xs3 ⟨f.fn, f.pc, .slice va4 f.sl.length vc4⟩ (ho3.row.fr ((Fr.of_below (S := fun _ => False) hg4.2.1).alloc _) (fun _ _ e => e)) (rx_blk zM (heap_alloc_new _ _) [⟨f.fn, f.pc, .slice va4 f.sl.length vc4⟩] rfl 1 rfl (by unfold maxLen; omega)) rfl (by have := unhide HfN; omega) ?_; intro v5 w5 hr5 hgr5 hat5; obtain ⟨hof5, hbw5⟩ := ho3.push hb3.size hg4 hr5 rfl hgr5 hat5; have hb5X : Below X.heap.size X w5 := hb3X.trans hbw5; have hS5 : w5.cell? ⟨F, 0, none⟩ = some (.int .i64 f.fn) ∧ w5.cell? ⟨F, 1, none⟩ = some (.int .i64 f.pc) ∧ w5.cell? ⟨F, 2, none⟩ = some (.slice sa sn sc) := (have q := unhide HSP w5 hb5X; ⟨q.2.2.2.2.1, q.2.2.2.2.2.1, q.2.2.2.2.2.2.1⟩)))
  have HOF5 := hide hof5.fsv
  have HB5 := hide hb5X
  have HOF5n := hide (unhide HOF5)
  have HUn := hide ((unhide HU).below (unhide HB5))
  have HFINn : Hid (∀ Y, Below w5.heap.size w5 Y → Below w.heap.size w Y) := fun Y hbY => unhide HFIN Y ((unhide HB5).trans (hbY.mono (unhide HB5).size))
  clear HU HFIN HSP HD HC22 HC41 g0 g1 g2 g3 g4 g5 g6 lP lT lF hS3 hS4 hS5 ho3 hb3 hb3X hg4 hb4X hr5 hgr5 hat5 hof5 hbw5 hb5X HB5
  (try clear HOF5)
  obtain ⟨X, hXn⟩ : ∃ Z, Z = w5 := ⟨_, rfl⟩
  subst hXn
  have HU := HUn
  clear HUn
  have HFIN := HFINn
  clear HFINn
  have HOF5 := HOF5n
  clear HOF5n
  have HC22 := hide (fun (Y : World) (hb : Below X.heap.size X Y) => copyMs_any ((unhide HU).below hb).fl (unhide HfN) (fun g hg => Nat.le_of_lt (unhide HS g hg)))
  have HC41 := hide (fun (Y : World) (hb : Below X.heap.size X Y) => copyM_any (v := .agg #[.int .i64 f.fn, .int .i64 f.pc, .slice sa sn sc]) ⟨_, rfl, ((unhide HU).below hb).sl⟩ (unhide HSf))
  have HSP := hide (fun (Y : World) (hb : Below X.heap.size X Y) => ((unhide HU).below hb).cells)
  have HD : Hid (Below X.heap.size X X.drew) := below_drw (Below.refl _ X)
  obtain ⟨g0, g1, g2, g3, g4, g5, g6, lP, lT, lF⟩ := (unhide HU).cells
  have HA1 : Hid ((fs ++ [f]).length ≤ 1048576) := by have := unhide hNN; unfold Hid; simp; omega
  have HA2 : Hid (∀ g ∈ fs ++ [f], g.sl.length ≤ 1048576) := fun g hg => by
    rcases List.mem_append.1 hg with q | q
    · exact Nat.le_of_lt (unhide HS g q)
    · rw [List.mem_singleton] at q; subst q; exact unhide HSf
  have HA3 : Hid (∀ g ∈ [f], g.sl.length ≤ 1048576) := fun g hg => by rw [List.mem_singleton] at hg; subst hg; exact unhide HSf
  cases htk : tk p f with
  | some kt =>
    obtain ⟨k, t⟩ := kt
    obtain ⟨G, hG⟩ : ∃ G : Fm, Hid ((⟨f.fn, t, f.sl.take k ++ [x]⟩ : Fm) = G) := ⟨_, hide rfl⟩
    have o1 : ct p (fs ++ [f]) x = some (fs ++ [G]) := by rw [← unhide hG]; exact ct_some htk
    have o2 : ct p [f] x = some [G] := by rw [← unhide hG]; exact ct_some (fs := []) htk
    have HGl : Hid (G.sl.length ≤ 1048576) := by
      rw [← unhide hG]
      have := unhide hsn
      unfold Hid
      simp
      omega
    have HG1 : Hid ((fs ++ [G]).length ≤ 1048576) := by have := unhide hNN; unfold Hid; simp; omega
    have HG2 : Hid (∀ g ∈ fs ++ [G], g.sl.length ≤ 1048576) := fun g hg => by
      rcases List.mem_append.1 hg with q | q
      · exact Nat.le_of_lt (unhide HS g q)
      · rw [List.mem_singleton] at q; subst q; exact unhide HGl
    clear hG htk
    have HC := hide (catch_any x (unhide HU).pg (unhide HOF5) hN (unhide HO) (unhide HA1) (unhide HA2))
    rw [o1] at HC
    go_wp2_with fail
    refine (unhide HC).mono ?_
    rintro e w6 ⟨v6, xs6, rfl, ho6, hb6⟩
    have HOF6 := hide ho6.fsv
    have HOF6n := hide (unhide HOF6)
    have HUn := hide ((unhide HU).below hb6)
    have HFINn : Hid (∀ Y, Below w6.heap.size w6 Y → Below w.heap.size w Y) := fun Y hbY => unhide HFIN Y (hb6.trans (hbY.mono hb6.size))
    clear o1
    clear HU HFIN HSP HD HC22 HC41 g0 g1 g2 g3 g4 g5 g6 lP lT lF ho6 hb6 HC HOF5
    (try clear HOF6)
    obtain ⟨X, hXn⟩ : ∃ Z, Z = w6 := ⟨_, rfl⟩
    subst hXn
    have HU := HUn
    clear HUn
    have HFIN := HFINn
    clear HFINn
    have HOF6 := HOF6n
    clear HOF6n
    have HC22 := hide (fun (Y : World) (hb : Below X.heap.size X Y) => copyMs_any ((unhide HU).below hb).fl (unhide HfN) (fun g hg => Nat.le_of_lt (unhide HS g hg)))
    have HC41 := hide (fun (Y : World) (hb : Below X.heap.size X Y) => copyM_any (v := .agg #[.int .i64 f.fn, .int .i64 f.pc, .slice sa sn sc]) ⟨_, rfl, ((unhide HU).below hb).sl⟩ (unhide HSf))
    have HSP := hide (fun (Y : World) (hb : Below X.heap.size X Y) => ((unhide HU).below hb).cells)
    have HD : Hid (Below X.heap.size X X.drew) := below_drw (Below.refl _ X)
    obtain ⟨g0, g1, g2, g3, g4, g5, g6, lP, lT, lF⟩ := (unhide HU).cells
    have HC := hide (fun (Y : World) (v : Value) (hb : Below X.heap.size X Y) (hv : FsV Y v [f]) => catch_any x ((unhide HU).below hb).pg hv hN (unhide HO) (by simp) (unhide HA3))
    rw [o2] at HC
    go_wp2_with fail
    go_region_held3 (fun w' => w'.cell? ⟨P, 0, none⟩ = some (.slice paa pan pac) ∧ w'.cell? ⟨P, 1, none⟩ = some (.slice pba pbn pbc) ∧ w'.cell? ⟨T, 3, none⟩ = some (.int .i64 x.1) ∧ w'.cell? ⟨T, 4, none⟩ = some (.int .i64 x.2) ∧ w'.cell? ⟨F, 0, none⟩ = some (.int .i64 f.fn) ∧ w'.cell? ⟨F, 1, none⟩ = some (.int .i64 f.pc) ∧ w'.cell? ⟨F, 2, none⟩ = some (.slice sa sn sc)) (first | go_keep | exact hS4 | exact hS7)
      (first
       | (go_at_call 41; refine (unhide HC41 _ (unhide HD)).mono ?_; rintro e w4 ⟨sv4, rfl, hg4⟩; obtain ⟨va4, vc4, esv4, _⟩ := hg4.1.shape; subst esv4; have hb4X : Below X.heap.size X w4 := (unhide HD).trans hg4.2.1; have hS4 : w4.cell? ⟨P, 0, none⟩ = some (.slice paa pan pac) ∧ w4.cell? ⟨P, 1, none⟩ = some (.slice pba pbn pbc) ∧ w4.cell? ⟨T, 3, none⟩ = some (.int .i64 x.1) ∧ w4.cell? ⟨T, 4, none⟩ = some (.int .i64 x.2) ∧ w4.cell? ⟨F, 0, none⟩ = some (.int .i64 f.fn) ∧ w4.cell? ⟨F, 1, none⟩ = some (.int .i64 f.pc) ∧ w4.cell? ⟨F, 2, none⟩ = some (.slice sa sn sc) := (have q := unhide HSP w4 hb4X; ⟨q.1, q.2.1, q.2.2.1, q.2.2.2.1, q.2.2.2.2.1, q.2.2.2.2.2.1, q.2.2.2.2.2.2.1⟩))
       | (go_at_call 19; refine (unhide HC _ _ (hb4X.alloc hb4X.size _) (fsv_blk1 (heap_alloc_new _ _) ((Rx.of_ro hg4.1).below ((Below.refl _ _).alloc (Nat.le_refl _) _) (Nat.le_refl _)))).mono ?_; rintro e w7 ⟨v7, xs7, rfl, ho7, hb7⟩; have hb7X : Below X.heap.size X w7 := (hb4X.alloc hb4X.size _).trans (hb7.mono (by have := hb4X.size; simp; omega)); have hS7 : w7.cell? ⟨P, 0, none⟩ = some (.slice paa pan pac) ∧ w7.cell? ⟨P, 1, none⟩ = some (.slice pba pbn pbc) ∧ w7.cell? ⟨T, 3, none⟩ = some (.int .i64 x.1) ∧ w7.cell? ⟨T, 4, none⟩ = some (.int .i64 x.2) ∧ w7.cell? ⟨F, 0, none⟩ = some (.int .i64 f.fn) ∧ w7.cell? ⟨F, 1, none⟩ = some (.int .i64 f.pc) ∧ w7.cell? ⟨F, 2, none⟩ = some (.slice sa sn sc) := (have q := unhide HSP w7 hb7X; ⟨q.1, q.2.1, q.2.2.1, q.2.2.2.1, q.2.2.2.2.1, q.2.2.2.2.2.1, q.2.2.2.2.2.2.1⟩)))
    have HOF7 := hide ho7.fsv
    have HOF6n := hide ((unhide HOF6).below hb7X (Nat.le_refl _))
    have HOF7n := hide (unhide HOF7)
    have HUn := hide ((unhide HU).below hb7X)
    have HFINn : Hid (∀ Y, Below w7.heap.size w7 Y → Below w.heap.size w Y) := fun Y hbY => unhide HFIN Y (hb7X.trans (hbY.mono hb7X.size))
    clear o2
    clear HU HFIN HSP HD HC22 HC41 g0 g1 g2 g3 g4 g5 g6 lP lT lF ho7 hb7 hb7X hS4 hS7 hg4 hb4X HC
    (try clear HOF6)
    (try clear HOF7)
    obtain ⟨X, hXn⟩ : ∃ Z, Z = w7 := ⟨_, rfl⟩
    subst hXn
    have HU := HUn
    clear HUn
    have HFIN := HFINn
    clear HFINn
    have HOF6 := HOF6n
    clear HOF6n
    have HOF7 := HOF7n
    clear HOF7n
    have HC22 := hide (fun (Y : World) (hb : Below X.heap.size X Y) => copyMs_any ((unhide HU).below hb).fl (unhide HfN) (fun g hg => Nat.le_of_lt (unhide HS g hg)))
    have HC41 := hide (fun (Y : World) (hb : Below X.heap.size X Y) => copyM_any (v := .agg #[.int .i64 f.fn, .int .i64 f.pc, .slice sa sn sc]) ⟨_, rfl, ((unhide HU).below hb).sl⟩ (unhide HSf))
    have HSP := hide (fun (Y : World) (hb : Below X.heap.size X Y) => ((unhide HU).below hb).cells)
    have HD : Hid (Below X.heap.size X X.drew) := below_drw (Below.refl _ X)
    obtain ⟨g0, g1, g2, g3, g4, g5, g6, lP, lT, lF⟩ := (unhide HU).cells
    obtain ⟨a7, c7, e7, hc7⟩ : ∃ a c, v7 = .slice a 1 c ∧ 1 ≤ c := by obtain ⟨a, c, e, h1, _⟩ := (unhide HOF7).shape; exact ⟨a, c, e, h1⟩
    subst e7
    obtain ⟨b7, q7, s7, d7, e7, l7, k70, k71, k72, hx7, _, _⟩ := FsV.three (unhide HOF7) (i := 0) (f := G) rfl
    subst e7
    obtain ⟨o7, ho7⟩ : ∃ o7, q7 + 0 * 3 = o7 := ⟨_, rfl⟩
    have hq7 : q7 = o7 := by omega
    subst hq7
    simp only [Nat.zero_mul, Nat.add_zero] at k70 k71 k72
    have HX7 := hide hx7
    obtain ⟨gn, hgn⟩ : ∃ N, Hid (G.sl.length = N) := ⟨_, hide rfl⟩
    rw [unhide hgn] at k72 HX7
    have HSP7 : Hid (∀ Y, Below X.heap.size X Y → Y.cell? ⟨b7, q7, none⟩ = some (.int .i64 G.fn) ∧ Y.cell? ⟨b7, q7 + 1, none⟩ = some (.int .i64 G.pc) ∧ Y.cell? ⟨b7, q7 + 2, none⟩ = some (.slice s7 gn d7)) := (have l0 := hide k70; have l1 := hide k71; have l2 := hide k72; fun Y hb => ⟨(hb.cell (p := ⟨b7, q7, none⟩) l7).trans (unhide l0), (hb.cell (p := ⟨b7, q7 + 1, none⟩) l7).trans (unhide l1), (hb.cell (p := ⟨b7, q7 + 2, none⟩) l7).trans (unhide l2)⟩)
    clear hx7 ho7
    have HX7' : Hid (∀ Y, Below X.heap.size X Y → Rx Y 2 (.slice s7 gn d7) G.sl.length (flt enI G.sl)) := fun Y hb => by have := (unhide HX7).below hb (Nat.le_refl _); rw [unhide hgn]; exact this
    have HC20 := hide (fun (Y : World) (v : Value) (hb : Below X.heap.size X Y) (hv : FsV Y v (fs ++ [G])) => sameMs_any ((unhide HOF6).below hb (Nat.le_refl _)) hv (unhide HG1) (unhide HG2))
    go_wp2_with fail
    go_region_held3 (fun w' => w'.cell? ⟨b7, q7, none⟩ = some (.int .i64 G.fn) ∧ w'.cell? ⟨b7, q7 + 1, none⟩ = some (.int .i64 G.pc) ∧ w'.cell? ⟨b7, q7 + 2, none⟩ = some (.slice s7 gn d7)) (first | go_keep | exact hS8 | exact hS5 | exact hS3)
      (first
       | (go_at_call 22; (first | refine (unhide HC22 _ (unhide HD)).mono ?_ | refine (unhide HC22 _ ((unhide HD).alloc (Nat.le_refl _) _)).mono ?_); rintro e w3 ⟨v3, xs3, rfl, ho3, hb3⟩; have hb3X : Below X.heap.size X w3 := (by first | exact (unhide HD).trans hb3 | exact ((unhide HD).alloc (Nat.le_refl _) _).trans (hb3.mono (by simp))); have hS3 := unhide HSP7 w3 hb3X; have hv3 : ∀ k, v3.ownBlock = some k → X.heap.size ≤ k := (fun k hk => by have h1 := ho3.rb k hk; (try simp at h1); omega))
       | ((first | refine step_appM (by rfl) _ _ rfl _ _ rfl rfl _ xs3 ⟨G.fn, G.pc, .slice s7 gn d7⟩ (ho3.row.fr ((Fr.refl (fun _ => False) _).alloc _) (fun _ _ e => e)) (rx_blk zM (heap_alloc_new _ _) [⟨G.fn, G.pc, .slice s7 gn d7⟩] rfl 1 rfl (by unfold maxLen; omega)) rfl (by have := unhide HfN; omega) ?_ | refine step_appM (by rfl) _ _ rfl _ _ rfl rfl _ xs3 ⟨G.fn, G.pc, .slice s7 gn d7⟩ ho3.row (rx_blk zM (blkT (heap_alloc_new _ _) hb3) [⟨G.fn, G.pc, .slice s7 gn d7⟩] rfl 1 rfl (by unfold maxLen; omega)) rfl (by have := unhide HfN; omega) ?_); intro v5 w5 hr5 hgr5 hat5; have hF5 : Fr (fun k => v3.ownBlock = some k) w3 w5 := (by first | exact ((Fr.refl _ w3).alloc _).grown hgr5 (fun k e => .inr e) | exact (Fr.refl _ w3).grown hgr5 (fun k e => .inr e)); have hb5X : Below X.heap.size X w5 := hb3X.trans (hF5.below hb3X.size (fun k hk e => by have := hv3 k e; omega)); have hS5 := unhide HSP7 w5 hb5X)
       | (go_at_call 20; refine (unhide HC20 _ _ hb5X (ho3.pushV hr5 rfl hF5 (unhide HX7' _ hb5X))).mono ?_; rintro e w8 ⟨rfl, hb8⟩; have hb8X : Below X.heap.size X w8 := hb5X.trans (hb8.mono hb5X.size); have hS8 := unhide HSP7 w8 hb8X))
    all_goals (have HE := hide (unhide HFIN _ hb8X); clear hS3 hS5 hS8 ho3 hb3 hb3X hv3 hr5 hgr5 hat5 hF5 hb5X hb8 hb8X; go_wp2_with fail; go_ret; exact ⟨rfl, unhide HE⟩)
  | none =>
    have o1 : ct p (fs ++ [f]) x = ct p fs x := ct_none htk
    have o2 : ct p [f] x = none := (ct_none (fs := []) htk).trans rfl
    clear htk
    cases hoo : ct p fs x with
    | none =>
      have HGB : Hid (([] : List Fm).length ≤ 1048576 ∧ ∀ g ∈ ([] : List Fm), g.sl.length ≤ 1048576) := ⟨by simp, fun g hg => by simp at hg⟩
      rw [hoo] at o1
      have HOO := hide hoo
      clear hoo
      have HC := hide (catch_any x (unhide HU).pg (unhide HOF5) hN (unhide HO) (unhide HA1) (unhide HA2))
      rw [o1] at HC
      go_wp2_with fail
      refine (unhide HC).mono ?_
      rintro e w6 ⟨v6, xs6, rfl, ho6, hb6⟩
      have HOF6 := hide ho6.fsv
      have HOF6n := hide (unhide HOF6)
      have HUn := hide ((unhide HU).below hb6)
      have HFINn : Hid (∀ Y, Below w6.heap.size w6 Y → Below w.heap.size w Y) := fun Y hbY => unhide HFIN Y (hb6.trans (hbY.mono hb6.size))
      clear o1
      clear HU HFIN HSP HD HC22 HC41 g0 g1 g2 g3 g4 g5 g6 lP lT lF ho6 hb6 HC HOF5
      (try clear HOF6)
      obtain ⟨X, hXn⟩ : ∃ Z, Z = w6 := ⟨_, rfl⟩
      subst hXn
      have HU := HUn
      clear HUn
      have HFIN := HFINn
      clear HFINn
      have HOF6 := HOF6n
      clear HOF6n
      have HC22 := hide (fun (Y : World) (hb : Below X.heap.size X Y) => copyMs_any ((unhide HU).below hb).fl (unhide HfN) (fun g hg => Nat.le_of_lt (unhide HS g hg)))
      have HC41 := hide (fun (Y : World) (hb : Below X.heap.size X Y) => copyM_any (v := .agg #[.int .i64 f.fn, .int .i64 f.pc, .slice sa sn sc]) ⟨_, rfl, ((unhide HU).below hb).sl⟩ (unhide HSf))
      have HSP := hide (fun (Y : World) (hb : Below X.heap.size X Y) => ((unhide HU).below hb).cells)
      have HD : Hid (Below X.heap.size X X.drew) := below_drw (Below.refl _ X)
      obtain ⟨g0, g1, g2, g3, g4, g5, g6, lP, lT, lF⟩ := (unhide HU).cells
      have HC := hide (fun (Y : World) (v : Value) (hb : Below X.heap.size X Y) (hv : FsV Y v [f]) => catch_any x ((unhide HU).below hb).pg hv hN (unhide HO) (by simp) (unhide HA3))
      rw [o2] at HC
      go_wp2_with fail
      go_region_held3 (fun w' => w'.cell? ⟨P, 0, none⟩ = some (.slice paa pan pac) ∧ w'.cell? ⟨P, 1, none⟩ = some (.slice pba pbn pbc) ∧ w'.cell? ⟨T, 3, none⟩ = some (.int .i64 x.1) ∧ w'.cell? ⟨T, 4, none⟩ = some (.int .i64 x.2) ∧ w'.cell? ⟨F, 0, none⟩ = some (.int .i64 f.fn) ∧ w'.cell? ⟨F, 1, none⟩ = some (.int .i64 f.pc) ∧ w'.cell? ⟨F, 2, none⟩ = some (.slice sa sn sc)) (first | go_keep | exact hS4 | exact hS7)
        (first
         | (go_at_call 41; refine (unhide HC41 _ (unhide HD)).mono ?_; rintro e w4 ⟨sv4, rfl, hg4⟩; obtain ⟨va4, vc4, esv4, _⟩ := hg4.1.shape; subst esv4; have hb4X : Below X.heap.size X w4 := (unhide HD).trans hg4.2.1; have hS4 : w4.cell? ⟨P, 0, none⟩ = some (.slice paa pan pac) ∧ w4.cell? ⟨P, 1, none⟩ = some (.slice pba pbn pbc) ∧ w4.cell? ⟨T, 3, none⟩ = some (.int .i64 x.1) ∧ w4.cell? ⟨T, 4, none⟩ = some (.int .i64 x.2) ∧ w4.cell? ⟨F, 0, none⟩ = some (.int .i64 f.fn) ∧ w4.cell? ⟨F, 1, none⟩ = some (.int .i64 f.pc) ∧ w4.cell? ⟨F, 2, none⟩ = some (.slice sa sn sc) := (have q := unhide HSP w4 hb4X; ⟨q.1, q.2.1, q.2.2.1, q.2.2.2.1, q.2.2.2.2.1, q.2.2.2.2.2.1, q.2.2.2.2.2.2.1⟩))
         | (go_at_call 19; refine (unhide HC _ _ (hb4X.alloc hb4X.size _) (fsv_blk1 (heap_alloc_new _ _) ((Rx.of_ro hg4.1).below ((Below.refl _ _).alloc (Nat.le_refl _) _) (Nat.le_refl _)))).mono ?_; rintro e w7 ⟨v7, xs7, rfl, ho7, hb7⟩; have hb7X : Below X.heap.size X w7 := (hb4X.alloc hb4X.size _).trans (hb7.mono (by have := hb4X.size; simp; omega)); have hS7 : w7.cell? ⟨P, 0, none⟩ = some (.slice paa pan pac) ∧ w7.cell? ⟨P, 1, none⟩ = some (.slice pba pbn pbc) ∧ w7.cell? ⟨T, 3, none⟩ = some (.int .i64 x.1) ∧ w7.cell? ⟨T, 4, none⟩ = some (.int .i64 x.2) ∧ w7.cell? ⟨F, 0, none⟩ = some (.int .i64 f.fn) ∧ w7.cell? ⟨F, 1, none⟩ = some (.int .i64 f.pc) ∧ w7.cell? ⟨F, 2, none⟩ = some (.slice sa sn sc) := (have q := unhide HSP w7 hb7X; ⟨q.1, q.2.1, q.2.2.1, q.2.2.2.1, q.2.2.2.2.1, q.2.2.2.2.2.1, q.2.2.2.2.2.2.1⟩)))
      have HOF7 := hide ho7.fsv
      have HOF6n := hide ((unhide HOF6).below hb7X (Nat.le_refl _))
      have HOF7n := hide (unhide HOF7)
      have HUn := hide ((unhide HU).below hb7X)
      have HFINn : Hid (∀ Y, Below w7.heap.size w7 Y → Below w.heap.size w Y) := fun Y hbY => unhide HFIN Y (hb7X.trans (hbY.mono hb7X.size))
      clear o2
      clear HU HFIN HSP HD HC22 HC41 g0 g1 g2 g3 g4 g5 g6 lP lT lF ho7 hb7 hb7X hS4 hS7 hg4 hb4X HC
      (try clear HOF6)
      (try clear HOF7)
      obtain ⟨X, hXn⟩ : ∃ Z, Z = w7 := ⟨_, rfl⟩
      subst hXn
      have HU := HUn
      clear HUn
      have HFIN := HFINn
      clear HFINn
      have HOF6 := HOF6n
      clear HOF6n
      have HOF7 := HOF7n
      clear HOF7n
      have HC22 := hide (fun (Y : World) (hb : Below X.heap.size X Y) => copyMs_any ((unhide HU).below hb).fl (unhide HfN) (fun g hg => Nat.le_of_lt (unhide HS g hg)))
      have HC41 := hide (fun (Y : World) (hb : Below X.heap.size X Y) => copyM_any (v := .agg #[.int .i64 f.fn, .int .i64 f.pc, .slice sa sn sc]) ⟨_, rfl, ((unhide HU).below hb).sl⟩ (unhide HSf))
      have HSP := hide (fun (Y : World) (hb : Below X.heap.size X Y) => ((unhide HU).below hb).cells)
      have HD : Hid (Below X.heap.size X X.drew) := below_drw (Below.refl _ X)
      obtain ⟨g0, g1, g2, g3, g4, g5, g6, lP, lT, lF⟩ := (unhide HU).cells
      have HC := hide (fun (Y : World) (v : Value) (hb : Below X.heap.size X Y) (hv : FsV Y v fs) => catch_any x ((unhide HU).below hb).pg hv hN (unhide HO) (unhide HfN) (fun g hg => Nat.le_of_lt (unhide HS g hg)))
      rw [unhide HOO] at HC
      go_wp2_with fail
      go_region_held3 (fun w' => w'.cell? ⟨P, 0, none⟩ = some (.slice paa pan pac) ∧ w'.cell? ⟨P, 1, none⟩ = some (.slice pba pbn pbc) ∧ w'.cell? ⟨T, 3, none⟩ = some (.int .i64 x.1) ∧ w'.cell? ⟨T, 4, none⟩ = some (.int .i64 x.2) ∧ w'.cell? ⟨F, 0, none⟩ = some (.int .i64 f.fn) ∧ w'.cell? ⟨F, 1, none⟩ = some (.int .i64 f.pc) ∧ w'.cell? ⟨F, 2, none⟩ = some (.slice sa sn sc)) (first | go_keep | exact hS3 | exact hS8)
        (first
         | (go_at_call 22; refine (unhide HC22 _ (unhide HD)).mono ?_; rintro e w3 ⟨v3, xs3, rfl, ho3, hb3⟩; have hb3X : Below X.heap.size X w3 := (unhide HD).trans hb3; have hS3 : w3.cell? ⟨P, 0, none⟩ = some (.slice paa pan pac) ∧ w3.cell? ⟨P, 1, none⟩ = some (.slice pba pbn pbc) ∧ w3.cell? ⟨T, 3, none⟩ = some (.int .i64 x.1) ∧ w3.cell? ⟨T, 4, none⟩ = some (.int .i64 x.2) ∧ w3.cell? ⟨F, 0, none⟩ = some (.int .i64 f.fn) ∧ w3.cell? ⟨F, 1, none⟩ = some (.int .i64 f.pc) ∧ w3.cell? ⟨F, 2, none⟩ = some (.slice sa sn sc) := (have q := unhide HSP w3 hb3X; ⟨q.1, q.2.1, q.2.2.1, q.2.2.2.1, q.2.2.2.2.1, q.2.2.2.2.2.1, q.2.2.2.2.2.2.1⟩))
         | (go_at_call 19; refine (unhide HC _ _ hb3X ho3.fsv).mono ?_; rintro e w8 ⟨v8, xs8, rfl, ho8, hb8⟩; have hb8X : Below X.heap.size X w8 := hb3X.trans (hb8.mono hb3X.size); have hS8 : w8.cell? ⟨P, 0, none⟩ = some (.slice paa pan pac) ∧ w8.cell? ⟨P, 1, none⟩ = some (.slice pba pbn pbc) ∧ w8.cell? ⟨T, 3, none⟩ = some (.int .i64 x.1) ∧ w8.cell? ⟨T, 4, none⟩ = some (.int .i64 x.2) ∧ w8.cell? ⟨F, 0, none⟩ = some (.int .i64 f.fn) ∧ w8.cell? ⟨F, 1, none⟩ = some (.int .i64 f.pc) ∧ w8.cell? ⟨F, 2, none⟩ = some (.slice sa sn sc) := (have q := unhide HSP w8 hb8X; ⟨q.1, q.2.1, q.2.2.1, q.2.2.2.1, q.2.2.2.2.1, q.2.2.2.2.2.1, q.2.2.2.2.2.2.1⟩)))
      have HOF8 := hide ho8.fsv
      have HOF6n := hide ((unhide HOF6).below hb8X (Nat.le_refl _))
      have HOF8n := hide (unhide HOF8)
      have HUn := hide ((unhide HU).below hb8X)
      have HFINn : Hid (∀ Y, Below w8.heap.size w8 Y → Below w.heap.size w Y) := fun Y hbY => unhide HFIN Y (hb8X.trans (hbY.mono hb8X.size))
      clear HU HFIN HSP HD HC22 HC41 g0 g1 g2 g3 g4 g5 g6 lP lT lF ho8 hb8 hb8X hS3 hS8 ho3 hb3 hb3X HC HOF7
      (try clear HOF6)
      (try clear HOF8)
      obtain ⟨X, hXn⟩ : ∃ Z, Z = w8 := ⟨_, rfl⟩
      subst hXn
      have HU := HUn
      clear HUn
      have HFIN := HFINn
      clear HFINn
      have HOF6 := HOF6n
      clear HOF6n
      have HOF8 := HOF8n
      clear HOF8n
      have HC22 := hide (fun (Y : World) (hb : Below X.heap.size X Y) => copyMs_any ((unhide HU).below hb).fl (unhide HfN) (fun g hg => Nat.le_of_lt (unhide HS g hg)))
      have HC41 := hide (fun (Y : World) (hb : Below X.heap.size X Y) => copyM_any (v := .agg #[.int .i64 f.fn, .int .i64 f.pc, .slice sa sn sc]) ⟨_, rfl, ((unhide HU).below hb).sl⟩ (unhide HSf))
      have HSP := hide (fun (Y : World) (hb : Below X.heap.size X Y) => ((unhide HU).below hb).cells)
      have HD : Hid (Below X.heap.size X X.drew) := below_drw (Below.refl _ X)
      obtain ⟨g0, g1, g2, g3, g4, g5, g6, lP, lT, lF⟩ := (unhide HU).cells
      have o3 : ct p [] x = none := rfl
      have HC := hide (catch_any x (unhide HU).pg (FsV.nil X) hN (unhide HO) (by simp) (fun g hg => by simp at hg))
      rw [o3] at HC
      clear o3
      go_wp2_with fail
      refine (unhide HC).mono ?_
      rintro e w9 ⟨v9, xs9, rfl, ho9, hb9⟩
      obtain ⟨a9, c9, e9, _⟩ := ho9.row.shape
      subst e9
      have HC20 := hide (sameMs_any ((unhide HOF6).below hb9 (Nat.le_refl _)) ((unhide HOF8).below hb9 (Nat.le_refl _)) (unhide HGB).1 (unhide HGB).2)
      have HE := hide (unhide HFIN _ hb9)
      have HB9 := hide hb9
      clear ho9 hb9 HC
      have hbe := bool_eqlF
      go_wp2_with fail
      refine (unhide HC20).mono ?_
      rintro e w10 ⟨rfl, hb10⟩
      have HE2 : Hid (Below w.heap.size w w10) := unhide HFIN _ ((unhide HB9).trans (hb10.mono (unhide HB9).size))
      clear hb10 HC20 HE
      go_wp2_with fail
      go_ret
      exact ⟨rfl, unhide HE2⟩
    | some gs =>
      have HGB : Hid (gs.length ≤ 1048576 ∧ ∀ g ∈ gs, g.sl.length ≤ 1048576) := ct_bound hoo (unhide HfN) (unhide HS)
      rw [hoo] at o1
      have HOO := hide hoo
      clear hoo
      have HC := hide (catch_any x (unhide HU).pg (unhide HOF5) hN (unhide HO) (unhide HA1) (unhide HA2))
      rw [o1] at HC
      go_wp2_with fail
      refine (unhide HC).mono ?_
      rintro e w6 ⟨v6, xs6, rfl, ho6, hb6⟩
      have HOF6 := hide ho6.fsv
      have HOF6n := hide (unhide HOF6)
      have HUn := hide ((unhide HU).below hb6)
      have HFINn : Hid (∀ Y, Below w6.heap.size w6 Y → Below w.heap.size w Y) := fun Y hbY => unhide HFIN Y (hb6.trans (hbY.mono hb6.size))
      clear o1
      clear HU HFIN HSP HD HC22 HC41 g0 g1 g2 g3 g4 g5 g6 lP lT lF ho6 hb6 HC HOF5
      (try clear HOF6)
      obtain ⟨X, hXn⟩ : ∃ Z, Z = w6 := ⟨_, rfl⟩
      subst hXn
      have HU := HUn
      clear HUn
      have HFIN := HFINn
      clear HFINn
      have HOF6 := HOF6n
      clear HOF6n
      have HC22 := hide (fun (Y : World) (hb : Below X.heap.size X Y) => copyMs_any ((unhide HU).below hb).fl (unhide HfN) (fun g hg => Nat.le_of_lt (unhide HS g hg)))
      have HC41 := hide (fun (Y : World) (hb : Below X.heap.size X Y) => copyM_any (v := .agg #[.int .i64 f.fn, .int .i64 f.pc, .slice sa sn sc]) ⟨_, rfl, ((unhide HU).below hb).sl⟩ (unhide HSf))
      have HSP := hide (fun (Y : World) (hb : Below X.heap.size X Y) => ((unhide HU).below hb).cells)
      have HD : Hid (Below X.heap.size X X.drew) := below_drw (Below.refl _ X)
      obtain ⟨g0, g1, g2, g3, g4, g5, g6, lP, lT, lF⟩ := (unhide HU).cells
      have HC := hide (fun (Y : World) (v : Value) (hb : Below X.heap.size X Y) (hv : FsV Y v [f]) => catch_any x ((unhide HU).below hb).pg hv hN (unhide HO) (by simp) (unhide HA3))
      rw [o2] at HC
      go_wp2_with fail
      go_region_held3 (fun w' => w'.cell? ⟨P, 0, none⟩ = some (.slice paa pan pac) ∧ w'.cell? ⟨P, 1, none⟩ = some (.slice pba pbn pbc) ∧ w'.cell? ⟨T, 3, none⟩ = some (.int .i64 x.1) ∧ w'.cell? ⟨T, 4, none⟩ = some (.int .i64 x.2) ∧ w'.cell? ⟨F, 0, none⟩ = some (.int .i64 f.fn) ∧ w'.cell? ⟨F, 1, none⟩ = some (.int .i64 f.pc) ∧ w'.cell? ⟨F, 2, none⟩ = some (.slice sa sn sc)) (first | go_keep | exact hS4 | exact hS7)
        (first
         | (go_at_call 41; refine (unhide HC41 _ (unhide HD)).mono ?_; rintro e w4 ⟨sv4, rfl, hg4⟩; obtain ⟨va4, vc4, esv4, _⟩ := hg4.1.shape; subst esv4; have hb4X : Below X.heap.size X w4 := (unhide HD).trans hg4.2.1; have hS4 : w4.cell? ⟨P, 0, none⟩ = some (.slice paa pan pac) ∧ w4.cell? ⟨P, 1, none⟩ = some (.slice pba pbn pbc) ∧ w4.cell? ⟨T, 3, none⟩ = some (.int .i64 x.1) ∧ w4.cell? ⟨T, 4, none⟩ = some (.int .i64 x.2) ∧ w4.cell? ⟨F, 0, none⟩ = some (.int .i64 f.fn) ∧ w4.cell? ⟨F, 1, none⟩ = some (.int .i64 f.pc) ∧ w4.cell? ⟨F, 2, none⟩ = some (.slice sa sn sc) := (have q := unhide HSP w4 hb4X; ⟨q.1, q.2.1, q.2.2.1, q.2.2.2.1, q.2.2.2.2.1, q.2.2.2.2.2.1, q.2.2.2.2.2.2.1⟩))
         | (go_at_call 19; refine (unhide HC _ _ (hb4X.alloc hb4X.size _) (fsv_blk1 (heap_alloc_new _ _) ((Rx.of_ro hg4.1).below ((Below.refl _ _).alloc (Nat.le_refl _) _) (Nat.le_refl _)))).mono ?_; rintro e w7 ⟨v7, xs7, rfl, ho7, hb7⟩; have hb7X : Below X.heap.size X w7 := (hb4X.alloc hb4X.size _).trans (hb7.mono (by have := hb4X.size; simp; omega)); have hS7 : w7.cell? ⟨P, 0, none⟩ = some (.slice paa pan pac) ∧ w7.cell? ⟨P, 1, none⟩ = some (.slice pba pbn pbc) ∧ w7.cell? ⟨T, 3, none⟩ = some (.int .i64 x.1) ∧ w7.cell? ⟨T, 4, none⟩ = some (.int .i64 x.2) ∧ w7.cell? ⟨F, 0, none⟩ = some (.int .i64 f.fn) ∧ w7.cell? ⟨F, 1, none⟩ = some (.int .i64 f.pc) ∧ w7.cell? ⟨F, 2, none⟩ = some (.slice sa sn sc) := (have q := unhide HSP w7 hb7X; ⟨q.1, q.2.1, q.2.2.1, q.2.2.2.1, q.2.2.2.2.1, q.2.2.2.2.2.1, q.2.2.2.2.2.2.1⟩)))
      have HOF7 := hide ho7.fsv
      have HOF6n := hide ((unhide HOF6).below hb7X (Nat.le_refl _))
      have HOF7n := hide (unhide HOF7)
      have HUn := hide ((unhide HU).below hb7X)
      have HFINn : Hid (∀ Y, Below w7.heap.size w7 Y → Below w.heap.size w Y) := fun Y hbY => unhide HFIN Y (hb7X.trans (hbY.mono hb7X.size))
      clear o2
      clear HU HFIN HSP HD HC22 HC41 g0 g1 g2 g3 g4 g5 g6 lP lT lF ho7 hb7 hb7X hS4 hS7 hg4 hb4X HC
      (try clear HOF6)
      (try clear HOF7)
      obtain ⟨X, hXn⟩ : ∃ Z, Z = w7 := ⟨_, rfl⟩
      subst hXn
      have HU := HUn
      clear HUn
      have HFIN := HFINn
      clear HFINn
      have HOF6 := HOF6n
      clear HOF6n
      have HOF7 := HOF7n
      clear HOF7n
      have HC22 := hide (fun (Y : World) (hb : Below X.heap.size X Y) => copyMs_any ((unhide HU).below hb).fl (unhide HfN) (fun g hg => Nat.le_of_lt (unhide HS g hg)))
      have HC41 := hide (fun (Y : World) (hb : Below X.heap.size X Y) => copyM_any (v := .agg #[.int .i64 f.fn, .int .i64 f.pc, .slice sa sn sc]) ⟨_, rfl, ((unhide HU).below hb).sl⟩ (unhide HSf))
      have HSP := hide (fun (Y : World) (hb : Below X.heap.size X Y) => ((unhide HU).below hb).cells)
      have HD : Hid (Below X.heap.size X X.drew) := below_drw (Below.refl _ X)
      obtain ⟨g0, g1, g2, g3, g4, g5, g6, lP, lT, lF⟩ := (unhide HU).cells
      have HC := hide (fun (Y : World) (v : Value) (hb : Below X.heap.size X Y) (hv : FsV Y v fs) => catch_any x ((unhide HU).below hb).pg hv hN (unhide HO) (unhide HfN) (fun g hg => Nat.le_of_lt (unhide HS g hg)))
      rw [unhide HOO] at HC
      go_wp2_with fail
      go_region_held3 (fun w' => w'.cell? ⟨P, 0, none⟩ = some (.slice paa pan pac) ∧ w'.cell? ⟨P, 1, none⟩ = some (.slice pba pbn pbc) ∧ w'.cell? ⟨T, 3, none⟩ = some (.int .i64 x.1) ∧ w'.cell? ⟨T, 4, none⟩ = some (.int .i64 x.2) ∧ w'.cell? ⟨F, 0, none⟩ = some (.int .i64 f.fn) ∧ w'.cell? ⟨F, 1, none⟩ = some (.int .i64 f.pc) ∧ w'.cell? ⟨F, 2, none⟩ = some (.slice sa sn sc)) (first | go_keep | exact hS3 | exact hS8)
        (first
         | (go_at_call 22; refine (unhide HC22 _ (unhide HD)).mono ?_; rintro e w3 ⟨v3, xs3, rfl, ho3, hb3⟩; have hb3X : Below X.heap.size X w3 := (unhide HD).trans hb3; have hS3 : w3.cell? ⟨P, 0, none⟩ = some (.slice paa pan pac) ∧ w3.cell? ⟨P, 1, none⟩ = some (.slice pba pbn pbc) ∧ w3.cell? ⟨T, 3, none⟩ = some (.int .i64 x.1) ∧ w3.cell? ⟨T, 4, none⟩ = some (.int .i64 x.2) ∧ w3.cell? ⟨F, 0, none⟩ = some (.int .i64 f.fn) ∧ w3.cell? ⟨F, 1, none⟩ = some (.int .i64 f.pc) ∧ w3.cell? ⟨F, 2, none⟩ = some (.slice sa sn sc) := (have q := unhide HSP w3 hb3X; ⟨q.1, q.2.1, q.2.2.1, q.2.2.2.1, q.2.2.2.2.1, q.2.2.2.2.2.1, q.2.2.2.2.2.2.1⟩))
         | (go_at_call 19; refine (unhide HC _ _ hb3X ho3.fsv).mono ?_; rintro e w8 ⟨v8, xs8, rfl, ho8, hb8⟩; have hb8X : Below X.heap.size X w8 := hb3X.trans (hb8.mono hb3X.size); have hS8 : w8.cell? ⟨P, 0, none⟩ = some (.slice paa pan pac) ∧ w8.cell? ⟨P, 1, none⟩ = some (.slice pba pbn pbc) ∧ w8.cell? ⟨T, 3, none⟩ = some (.int .i64 x.1) ∧ w8.cell? ⟨T, 4, none⟩ = some (.int .i64 x.2) ∧ w8.cell? ⟨F, 0, none⟩ = some (.int .i64 f.fn) ∧ w8.cell? ⟨F, 1, none⟩ = some (.int .i64 f.pc) ∧ w8.cell? ⟨F, 2, none⟩ = some (.slice sa sn sc) := (have q := unhide HSP w8 hb8X; ⟨q.1, q.2.1, q.2.2.1, q.2.2.2.1, q.2.2.2.2.1, q.2.2.2.2.2.1, q.2.2.2.2.2.2.1⟩)))
      have HOF8 := hide ho8.fsv
      have HOF6n := hide ((unhide HOF6).below hb8X (Nat.le_refl _))
      have HOF8n := hide (unhide HOF8)
      have HUn := hide ((unhide HU).below hb8X)
      have HFINn : Hid (∀ Y, Below w8.heap.size w8 Y → Below w.heap.size w Y) := fun Y hbY => unhide HFIN Y (hb8X.trans (hbY.mono hb8X.size))
      clear HU HFIN HSP HD HC22 HC41 g0 g1 g2 g3 g4 g5 g6 lP lT lF ho8 hb8 hb8X hS3 hS8 ho3 hb3 hb3X HC HOF7
      (try clear HOF6)
      (try clear HOF8)
      obtain ⟨X, hXn⟩ : ∃ Z, Z = w8 := ⟨_, rfl⟩
      subst hXn
      have HU := HUn
      clear HUn
      have HFIN := HFINn
      clear HFINn
      have HOF6 := HOF6n
      clear HOF6n
      have HOF8 := HOF8n
      clear HOF8n
      have HC22 := hide (fun (Y : World) (hb : Below X.heap.size X Y) => copyMs_any ((unhide HU).below hb).fl (unhide HfN) (fun g hg => Nat.le_of_lt (unhide HS g hg)))
      have HC41 := hide (fun (Y : World) (hb : Below X.heap.size X Y) => copyM_any (v := .agg #[.int .i64 f.fn, .int .i64 f.pc, .slice sa sn sc]) ⟨_, rfl, ((unhide HU).below hb).sl⟩ (unhide HSf))
      have HSP := hide (fun (Y : World) (hb : Below X.heap.size X Y) => ((unhide HU).below hb).cells)
      have HD : Hid (Below X.heap.size X X.drew) := below_drw (Below.refl _ X)
      obtain ⟨g0, g1, g2, g3, g4, g5, g6, lP, lT, lF⟩ := (unhide HU).cells
      have o3 : ct p [] x = none := rfl
      have HC := hide (catch_any x (unhide HU).pg (FsV.nil X) hN (unhide HO) (by simp) (fun g hg => by simp at hg))
      rw [o3] at HC
      clear o3
      go_wp2_with fail
      refine (unhide HC).mono ?_
      rintro e w9 ⟨v9, xs9, rfl, ho9, hb9⟩
      obtain ⟨a9, c9, e9, _⟩ := ho9.row.shape
      subst e9
      have HC20 := hide (sameMs_any ((unhide HOF6).below hb9 (Nat.le_refl _)) ((unhide HOF8).below hb9 (Nat.le_refl _)) (unhide HGB).1 (unhide HGB).2)
      have HE := hide (unhide HFIN _ hb9)
      have HB9 := hide hb9
      clear ho9 hb9 HC
      have hbe := bool_eqlF
      go_wp2_with fail
      refine (unhide HC20).mono ?_
      rintro e w10 ⟨rfl, hb10⟩
      have HE2 : Hid (Below w.heap.size w w10) := unhide HFIN _ ((unhide HB9).trans (hb10.mono (unhide HB9).size))
      clear hb10 HC20 HE
      go_wp2_with fail
      go_ret
      exact ⟨rfl, unhide HE2⟩
end Go.Proofs.Ytfcgpafjhifogaa
