/-
  FramesWhere: its law.
-/
import Derived.Test.YtfcgpafjhifogaaUnw
namespace Go.Proofs.Ytfcgpafjhifogaa
open Go.RowKit
set_option linter.unusedVariables false
set_option linter.unusedSimpArgs false
theorem ctN_two {p : Pg} {fs : List Fm} (x y : Int × Int) : ∀ n, n ≤ fs.length → (ctN p fs x n = none ∧ ctN p fs y n = none) ∨ ∃ m f k t, m < n ∧ fs[m]? = some f ∧ tk p f = some (k, t) ∧ ctN p fs x n = some (fs.take m ++ [⟨f.fn, t, f.sl.take k ++ [x]⟩]) ∧ ctN p fs y n = some (fs.take m ++ [⟨f.fn, t, f.sl.take k ++ [y]⟩])
  | 0, _ => .inl ⟨rfl, rfl⟩
  | n + 1, hn => by
    obtain ⟨f, hf⟩ : ∃ f, fs[n]? = some f := ⟨_, List.getElem?_eq_getElem (by omega)⟩
    cases e : tk p f with
    | none =>
      rw [ctN_none hf e, ctN_none hf e]
      rcases ctN_two (p := p) (fs := fs) x y n (by omega) with h | ⟨m, g, k, t, h1, h2⟩
      · exact .inl h
      · exact .inr ⟨m, g, k, t, by omega, h2⟩
    | some kt =>
      obtain ⟨k, t⟩ := kt
      rw [ctN_some hf e, ctN_some hf e]
      exact .inr ⟨n, f, k, t, by omega, hf, e, rfl, rfl⟩
theorem ct_two (p : Pg) (fs : List Fm) (x y : Int × Int) : (ct p fs x = none ∧ ct p fs y = none) ∨ ∃ m f k t, m < fs.length ∧ fs[m]? = some f ∧ tk p f = some (k, t) ∧ ct p fs x = some (fs.take m ++ [⟨f.fn, t, f.sl.take k ++ [x]⟩]) ∧ ct p fs y = some (fs.take m ++ [⟨f.fn, t, f.sl.take k ++ [y]⟩]) := ctN_two x y _ (Nat.le_refl _)
/-- What stays while the law goes on. -/
structure WhI (P T : Nat) (pa pb : Value) (a : Option Addr) (N cap : Nat) (u0 u1 u2 : Value) (p : Pg) (fs : List Fm) (x y : Int × Int) (X : World) : Prop where
  bp : X.heap[P]? = some (.cells #[pa, pb] 25)
  bt : X.heap[T]? = some (.cells #[u0, u1, u2, .int .i64 x.1, .int .i64 x.2, .int .i64 y.1, .int .i64 y.2] 75)
  pg : PgV X (.agg #[pa, pb]) p
  fl : FsV X (.slice a N cap) fs
theorem WhI.below {P T : Nat} {pa pb : Value} {a : Option Addr} {N cap : Nat} {u0 u1 u2 : Value} {p : Pg} {fs : List Fm} {x y : Int × Int} {X Y : World} (h : WhI P T pa pb a N cap u0 u1 u2 p fs x y X) (hb : Below X.heap.size X Y) : WhI P T pa pb a N cap u0 u1 u2 p fs x y Y :=
  ⟨blkT h.bp hb, blkT h.bt hb, h.pg.below hb (Nat.le_refl _), h.fl.below hb (Nat.le_refl _)⟩
theorem WhI.cells {P T : Nat} {pa pb : Value} {a : Option Addr} {N cap : Nat} {u0 u1 u2 : Value} {p : Pg} {fs : List Fm} {x y : Int × Int} {X : World} (h : WhI P T pa pb a N cap u0 u1 u2 p fs x y X) :
    X.cell? ⟨P, 0, none⟩ = some pa ∧ X.cell? ⟨P, 1, none⟩ = some pb ∧ X.cell? ⟨T, 3, none⟩ = some (.int .i64 x.1) ∧ X.cell? ⟨T, 4, none⟩ = some (.int .i64 x.2) ∧ X.cell? ⟨T, 5, none⟩ = some (.int .i64 y.1) ∧ X.cell? ⟨T, 6, none⟩ = some (.int .i64 y.2) :=
  ⟨(blk_cells h.bp).1 0, (blk_cells h.bp).1 1, (blk_cells h.bt).1 3, (blk_cells h.bt).1 4, (blk_cells h.bt).1 5, (blk_cells h.bt).1 6⟩
theorem bool_neqF : ∀ (b c : Bool) (w : World), (binOp .neq 4 (.bool b) (.bool c)).run Try.prog w = .ok (.bool (b != c)) w := fun b c w => by cases b <;> cases c <;> kernel_rfl
/-- A slot of a frame of a row. -/
theorem FsV.slot {w : World} {a : Option Addr} {n : Nat} {cap : Nat} {l : List (Int × Int)} (h : Rx w 2 (.slice a n cap) l.length (flt enI l)) {k : Nat} {z : Int × Int} (hz : l[k]? = some z) : ∃ b o, a = some ⟨b, o, none⟩ ∧ b < w.heap.size ∧ w.cell? ⟨b, o + k * 2, none⟩ = some (.int .i64 z.1) ∧ w.cell? ⟨b, o + k * 2 + 1, none⟩ = some (.int .i64 z.2) := by
  obtain ⟨b, o, _, e, _, _, hb, hc⟩ := h.elem zI hz
  cases e
  exact ⟨b, o, rfl, hb, hc 0 _ rfl, hc 1 _ rfl⟩
set_option maxRecDepth 100000 in
set_option maxHeartbeats 6400000 in
theorem whereLaw {w : World} {pv lv u0 u1 u2 : Value} {p : Pg} {fs : List Fm} (x y : Int × Int) (h : PgV w pv p) (hl : FsV w lv fs) (h0 : u0.oneCell' = true) (h1 : u1.oneCell' = true) (h2 : u2.oneCell' = true) (hN : p.funcs.length ≤ 1048576) (hO : ∀ k g, fnAt p k = some g → g.hs.length ≤ 1048576 ∧ g.locals < 9223372036854775808) (hL : fs.length < 1048576) (hS : ∀ g ∈ fs, g.sl.length < 1048576) :
    Calls Try.prog 8 #[pv, lv, .agg #[u0, u1, u2, .int .i64 x.1, .int .i64 x.2, .int .i64 y.1, .int .i64 y.2]] w fun e w' => e = .returned (.bool true) ∧ Below w.heap.size w w' := by
  obtain ⟨pa, pb, rfl⟩ : ∃ a b, pv = .agg #[a, b] := by obtain ⟨a, b, e, _⟩ := h; exact ⟨a, b, e⟩
  obtain ⟨paa, pan, pac, epa⟩ : ∃ a n c, pa = .slice a n c := by
    obtain ⟨_, _, e, ⟨_, a, c, e2, _⟩, _⟩ := h
    cases e; exact ⟨a, _, c, e2⟩
  obtain ⟨pba, pbn, pbc, epb⟩ : ∃ a n c, pb = .slice a n c := by
    obtain ⟨_, _, e, _, hfs⟩ := h
    obtain ⟨a, c, e2, _⟩ := hfs.at
    cases e; exact ⟨a, _, c, e2⟩
  subst epa epb
  obtain ⟨a, cap, rfl, hlc, hcm⟩ := hl.shape
  have HP := hide h
  have HS := hide hS
  have HO := hide hO
  obtain ⟨N, hNN⟩ : ∃ N, Hid (fs.length = N) := ⟨_, hide rfl⟩
  have HL' : Hid (FsV w (.slice a N cap) fs) := by rw [← unhide hNN]; exact hl
  rw [unhide hNN] at hL hlc ⊢
  clear h hl hS hO
  have HfN : Hid (fs.length ≤ 1048576) := by have := unhide hNN; unfold Hid; omega
  have HSW := hide shown_any
  go_enter Try.func8, Try.ntmps8
  go_wp2_with fail
  refine (unhide HSW _).mono ?_
  rintro e X ⟨rfl, hb1⟩
  obtain ⟨W0, hW0⟩ : ∃ W0, Hid (((w.alloc (.cells #[.slice paa pan pac, .slice pba pbn pbc] 25)).alloc (.cells #[u0, u1, u2, .int .i64 x.1, .int .i64 x.2, .int .i64 y.1, .int .i64 y.2] 75)) = W0) := ⟨_, hide rfl⟩
  have hb1' : Below W0.heap.size W0 X := by rw [← unhide hW0]; exact hb1
  obtain ⟨k1, k2⟩ := blk2 w (.cells #[.slice paa pan pac, .slice pba pbn pbc] 25) (.cells #[u0, u1, u2, .int .i64 x.1, .int .i64 x.2, .int .i64 y.1, .int .i64 y.2] 75)
  rw [unhide hW0] at k1 k2
  have hb0 : Below w.heap.size w W0 := by rw [← unhide hW0]; exact Below.alloc2 w _ _
  have HXB : Hid (Below w.heap.size w X) := hb0.trans (hb1'.mono hb0.size)
  obtain ⟨P, hP⟩ : ∃ P, Hid (w.heap.size = P) := ⟨_, hide rfl⟩
  obtain ⟨T, hT⟩ : ∃ T, Hid (w.heap.size + 1 = T) := ⟨_, hide rfl⟩
  have HU : Hid (WhI P T (.slice paa pan pac) (.slice pba pbn pbc) a N cap u0 u1 u2 p fs x y X) := by
    rw [← unhide hP, ← unhide hT]
    exact ⟨blkT k1 hb1', blkT k2 hb1', (unhide HP).below (unhide HXB) (Nat.le_refl _), (unhide HL').below (unhide HXB) (Nat.le_refl _)⟩
  rw [unhide hT, unhide hP]
  clear HP HL' hb1 hb1' k1 k2 hb0 hW0 HSW
  have HFIN : Hid (∀ Y, Below X.heap.size X Y → Below w.heap.size w Y) := fun Y hb => (unhide HXB).trans (hb.mono (unhide HXB).size)
  have HC22 := hide (fun (Y : World) (hb : Below X.heap.size X Y) => copyMs_any ((unhide HU).below hb).fl (unhide HfN) (fun g hg => Nat.le_of_lt (unhide HS g hg)))
  have HSP := hide (fun (Y : World) (hb : Below X.heap.size X Y) => ((unhide HU).below hb).cells)
  have HD : Hid (Below X.heap.size X X.drew) := below_drw (Below.refl _ X)
  obtain ⟨g0, g1, g2, g3, g4, g5⟩ := (unhide HU).cells
  rcases ct_two p fs x y with ⟨o1, o2⟩ | ⟨m, f, k, t, hm, hf, hk, o1, o2⟩
  · have HC := hide (fun (Y : World) (v : Value) (hb : Below X.heap.size X Y) (hv : FsV Y v fs) => catch_any x ((unhide HU).below hb).pg hv hN (unhide HO) (unhide HfN) (fun g hg => Nat.le_of_lt (unhide HS g hg)))
    rw [o1] at HC
    go_wp2_with fail
    go_region_held3 (fun w' => w'.cell? ⟨P, 0, none⟩ = some (.slice paa pan pac) ∧ w'.cell? ⟨P, 1, none⟩ = some (.slice pba pbn pbc) ∧ w'.cell? ⟨T, 3, none⟩ = some (.int .i64 x.1) ∧ w'.cell? ⟨T, 4, none⟩ = some (.int .i64 x.2) ∧ w'.cell? ⟨T, 5, none⟩ = some (.int .i64 y.1) ∧ w'.cell? ⟨T, 6, none⟩ = some (.int .i64 y.2)) (first | go_keep | exact hS3 | exact hS7)
      (first
       | (go_at_call 22; refine (unhide HC22 _ (unhide HD)).mono ?_; rintro e w3 ⟨v3, xs3, rfl, ho3, hb3⟩; have hb3X : Below X.heap.size X w3 := (unhide HD).trans hb3; have hS3 : w3.cell? ⟨P, 0, none⟩ = some (.slice paa pan pac) ∧ w3.cell? ⟨P, 1, none⟩ = some (.slice pba pbn pbc) ∧ w3.cell? ⟨T, 3, none⟩ = some (.int .i64 x.1) ∧ w3.cell? ⟨T, 4, none⟩ = some (.int .i64 x.2) ∧ w3.cell? ⟨T, 5, none⟩ = some (.int .i64 y.1) ∧ w3.cell? ⟨T, 6, none⟩ = some (.int .i64 y.2) := unhide HSP w3 hb3X)
       | (go_at_call 19; refine (unhide HC _ _ hb3X ho3.fsv).mono ?_; rintro e w7 ⟨v7, xs7, rfl, ho7, hb7⟩; have hb7X : Below X.heap.size X w7 := hb3X.trans (hb7.mono hb3X.size); have hS7 : w7.cell? ⟨P, 0, none⟩ = some (.slice paa pan pac) ∧ w7.cell? ⟨P, 1, none⟩ = some (.slice pba pbn pbc) ∧ w7.cell? ⟨T, 3, none⟩ = some (.int .i64 x.1) ∧ w7.cell? ⟨T, 4, none⟩ = some (.int .i64 x.2) ∧ w7.cell? ⟨T, 5, none⟩ = some (.int .i64 y.1) ∧ w7.cell? ⟨T, 6, none⟩ = some (.int .i64 y.2) := unhide HSP w7 hb7X))
    have HOF7 := hide ho7.fsv
    have HOF7n := hide (unhide HOF7)
    have HUn := hide ((unhide HU).below hb7X)
    have HFINn : Hid (∀ Y, Below w7.heap.size w7 Y → Below w.heap.size w Y) := fun Y hbY => unhide HFIN Y (hb7X.trans (hbY.mono hb7X.size))
    clear HU HFIN HSP HD HC22 g0 g1 g2 g3 g4 g5 ho7 hb7 hb7X hS3 hS7 ho3 hb3 hb3X HC o1
    (try clear HOF7)
    obtain ⟨X, hXn⟩ : ∃ Z, Z = w7 := ⟨_, rfl⟩
    subst hXn
    have HU := HUn
    clear HUn
    have HFIN := HFINn
    clear HFINn
    have HOF7 := HOF7n
    clear HOF7n
    have HC22 := hide (fun (Y : World) (hb : Below X.heap.size X Y) => copyMs_any ((unhide HU).below hb).fl (unhide HfN) (fun g hg => Nat.le_of_lt (unhide HS g hg)))
    have HSP := hide (fun (Y : World) (hb : Below X.heap.size X Y) => ((unhide HU).below hb).cells)
    have HD : Hid (Below X.heap.size X X.drew) := below_drw (Below.refl _ X)
    obtain ⟨g0, g1, g2, g3, g4, g5⟩ := (unhide HU).cells
    have HC := hide (fun (Y : World) (v : Value) (hb : Below X.heap.size X Y) (hv : FsV Y v fs) => catch_any y ((unhide HU).below hb).pg hv hN (unhide HO) (unhide HfN) (fun g hg => Nat.le_of_lt (unhide HS g hg)))
    rw [o2] at HC
    go_wp2_with fail
    go_region_held3 (fun w' => w'.cell? ⟨P, 0, none⟩ = some (.slice paa pan pac) ∧ w'.cell? ⟨P, 1, none⟩ = some (.slice pba pbn pbc) ∧ w'.cell? ⟨T, 3, none⟩ = some (.int .i64 x.1) ∧ w'.cell? ⟨T, 4, none⟩ = some (.int .i64 x.2) ∧ w'.cell? ⟨T, 5, none⟩ = some (.int .i64 y.1) ∧ w'.cell? ⟨T, 6, none⟩ = some (.int .i64 y.2)) (first | go_keep | exact hS3 | exact hS9)
      (first
       | (go_at_call 22; refine (unhide HC22 _ (unhide HD)).mono ?_; rintro e w3 ⟨v3, xs3, rfl, ho3, hb3⟩; have hb3X : Below X.heap.size X w3 := (unhide HD).trans hb3; have hS3 : w3.cell? ⟨P, 0, none⟩ = some (.slice paa pan pac) ∧ w3.cell? ⟨P, 1, none⟩ = some (.slice pba pbn pbc) ∧ w3.cell? ⟨T, 3, none⟩ = some (.int .i64 x.1) ∧ w3.cell? ⟨T, 4, none⟩ = some (.int .i64 x.2) ∧ w3.cell? ⟨T, 5, none⟩ = some (.int .i64 y.1) ∧ w3.cell? ⟨T, 6, none⟩ = some (.int .i64 y.2) := unhide HSP w3 hb3X)
       | (go_at_call 19; refine (unhide HC _ _ hb3X ho3.fsv).mono ?_; rintro e w9 ⟨v9, xs9, rfl, ho9, hb9⟩; have hb9X : Below X.heap.size X w9 := hb3X.trans (hb9.mono hb3X.size); have hS9 : w9.cell? ⟨P, 0, none⟩ = some (.slice paa pan pac) ∧ w9.cell? ⟨P, 1, none⟩ = some (.slice pba pbn pbc) ∧ w9.cell? ⟨T, 3, none⟩ = some (.int .i64 x.1) ∧ w9.cell? ⟨T, 4, none⟩ = some (.int .i64 x.2) ∧ w9.cell? ⟨T, 5, none⟩ = some (.int .i64 y.1) ∧ w9.cell? ⟨T, 6, none⟩ = some (.int .i64 y.2) := unhide HSP w9 hb9X))
    have HOF9 := hide ho9.fsv
    have HOF7n := hide ((unhide HOF7).below hb9X (Nat.le_refl _))
    have HOF9n := hide (unhide HOF9)
    have HUn := hide ((unhide HU).below hb9X)
    have HFINn : Hid (∀ Y, Below w9.heap.size w9 Y → Below w.heap.size w Y) := fun Y hbY => unhide HFIN Y (hb9X.trans (hbY.mono hb9X.size))
    clear HU HFIN HSP HD HC22 g0 g1 g2 g3 g4 g5 ho9 hb9 hb9X hS3 hS9 ho3 hb3 hb3X HC o2
    (try clear HOF7)
    (try clear HOF9)
    obtain ⟨X, hXn⟩ : ∃ Z, Z = w9 := ⟨_, rfl⟩
    subst hXn
    have HU := HUn
    clear HUn
    have HFIN := HFINn
    clear HFINn
    have HOF7 := HOF7n
    clear HOF7n
    have HOF9 := HOF9n
    clear HOF9n
    have HC22 := hide (fun (Y : World) (hb : Below X.heap.size X Y) => copyMs_any ((unhide HU).below hb).fl (unhide HfN) (fun g hg => Nat.le_of_lt (unhide HS g hg)))
    have HSP := hide (fun (Y : World) (hb : Below X.heap.size X Y) => ((unhide HU).below hb).cells)
    have HD : Hid (Below X.heap.size X X.drew) := below_drw (Below.refl _ X)
    obtain ⟨g0, g1, g2, g3, g4, g5⟩ := (unhide HU).cells
    obtain ⟨a7, c7, e7, _⟩ := (unhide HOF7).shape
    obtain ⟨a9, c9, e9, _⟩ := (unhide HOF9).shape
    subst e7 e9
    have HE := hide (unhide HFIN X (Below.refl _ _))
    have hbe := bool_neqF
    have q0 : ((0 : Nat) : Int) = 0 := rfl
    have q1 : ¬ ((N : Int) < 0) := by omega
    go_wp2_with fail
    go_ret
    exact ⟨rfl, unhide HE⟩
  · obtain ⟨G1, hG1⟩ : ∃ G : Fm, Hid ((⟨f.fn, t, f.sl.take k ++ [x]⟩ : Fm) = G) := ⟨_, hide rfl⟩
    obtain ⟨G2, hG2⟩ : ∃ G : Fm, Hid ((⟨f.fn, t, f.sl.take k ++ [y]⟩ : Fm) = G) := ⟨_, hide rfl⟩
    rw [unhide hG1] at o1
    rw [unhide hG2] at o2
    have hkl : k ≤ f.sl.length := tk_le hk
    have hmN : m < N := by have := unhide hNN; omega
    have HF := hide hf
    clear hk hf hm
    have HC := hide (fun (Y : World) (v : Value) (hb : Below X.heap.size X Y) (hv : FsV Y v fs) => catch_any x ((unhide HU).below hb).pg hv hN (unhide HO) (unhide HfN) (fun g hg => Nat.le_of_lt (unhide HS g hg)))
    rw [o1] at HC
    go_wp2_with fail
    go_region_held3 (fun w' => w'.cell? ⟨P, 0, none⟩ = some (.slice paa pan pac) ∧ w'.cell? ⟨P, 1, none⟩ = some (.slice pba pbn pbc) ∧ w'.cell? ⟨T, 3, none⟩ = some (.int .i64 x.1) ∧ w'.cell? ⟨T, 4, none⟩ = some (.int .i64 x.2) ∧ w'.cell? ⟨T, 5, none⟩ = some (.int .i64 y.1) ∧ w'.cell? ⟨T, 6, none⟩ = some (.int .i64 y.2)) (first | go_keep | exact hS3 | exact hS7)
      (first
       | (go_at_call 22; refine (unhide HC22 _ (unhide HD)).mono ?_; rintro e w3 ⟨v3, xs3, rfl, ho3, hb3⟩; have hb3X : Below X.heap.size X w3 := (unhide HD).trans hb3; have hS3 : w3.cell? ⟨P, 0, none⟩ = some (.slice paa pan pac) ∧ w3.cell? ⟨P, 1, none⟩ = some (.slice pba pbn pbc) ∧ w3.cell? ⟨T, 3, none⟩ = some (.int .i64 x.1) ∧ w3.cell? ⟨T, 4, none⟩ = some (.int .i64 x.2) ∧ w3.cell? ⟨T, 5, none⟩ = some (.int .i64 y.1) ∧ w3.cell? ⟨T, 6, none⟩ = some (.int .i64 y.2) := unhide HSP w3 hb3X)
       | (go_at_call 19; refine (unhide HC _ _ hb3X ho3.fsv).mono ?_; rintro e w7 ⟨v7, xs7, rfl, ho7, hb7⟩; have hb7X : Below X.heap.size X w7 := hb3X.trans (hb7.mono hb3X.size); have hS7 : w7.cell? ⟨P, 0, none⟩ = some (.slice paa pan pac) ∧ w7.cell? ⟨P, 1, none⟩ = some (.slice pba pbn pbc) ∧ w7.cell? ⟨T, 3, none⟩ = some (.int .i64 x.1) ∧ w7.cell? ⟨T, 4, none⟩ = some (.int .i64 x.2) ∧ w7.cell? ⟨T, 5, none⟩ = some (.int .i64 y.1) ∧ w7.cell? ⟨T, 6, none⟩ = some (.int .i64 y.2) := unhide HSP w7 hb7X))
    have HOF7 := hide ho7.fsv
    have HOF7n := hide (unhide HOF7)
    have HUn := hide ((unhide HU).below hb7X)
    have HFINn : Hid (∀ Y, Below w7.heap.size w7 Y → Below w.heap.size w Y) := fun Y hbY => unhide HFIN Y (hb7X.trans (hbY.mono hb7X.size))
    clear HU HFIN HSP HD HC22 g0 g1 g2 g3 g4 g5 ho7 hb7 hb7X hS3 hS7 ho3 hb3 hb3X HC o1
    (try clear HOF7)
    obtain ⟨X, hXn⟩ : ∃ Z, Z = w7 := ⟨_, rfl⟩
    subst hXn
    have HU := HUn
    clear HUn
    have HFIN := HFINn
    clear HFINn
    have HOF7 := HOF7n
    clear HOF7n
    have HC22 := hide (fun (Y : World) (hb : Below X.heap.size X Y) => copyMs_any ((unhide HU).below hb).fl (unhide HfN) (fun g hg => Nat.le_of_lt (unhide HS g hg)))
    have HSP := hide (fun (Y : World) (hb : Below X.heap.size X Y) => ((unhide HU).below hb).cells)
    have HD : Hid (Below X.heap.size X X.drew) := below_drw (Below.refl _ X)
    obtain ⟨g0, g1, g2, g3, g4, g5⟩ := (unhide HU).cells
    have HC := hide (fun (Y : World) (v : Value) (hb : Below X.heap.size X Y) (hv : FsV Y v fs) => catch_any y ((unhide HU).below hb).pg hv hN (unhide HO) (unhide HfN) (fun g hg => Nat.le_of_lt (unhide HS g hg)))
    rw [o2] at HC
    go_wp2_with fail
    go_region_held3 (fun w' => w'.cell? ⟨P, 0, none⟩ = some (.slice paa pan pac) ∧ w'.cell? ⟨P, 1, none⟩ = some (.slice pba pbn pbc) ∧ w'.cell? ⟨T, 3, none⟩ = some (.int .i64 x.1) ∧ w'.cell? ⟨T, 4, none⟩ = some (.int .i64 x.2) ∧ w'.cell? ⟨T, 5, none⟩ = some (.int .i64 y.1) ∧ w'.cell? ⟨T, 6, none⟩ = some (.int .i64 y.2)) (first | go_keep | exact hS3 | exact hS9)
      (first
       | (go_at_call 22; refine (unhide HC22 _ (unhide HD)).mono ?_; rintro e w3 ⟨v3, xs3, rfl, ho3, hb3⟩; have hb3X : Below X.heap.size X w3 := (unhide HD).trans hb3; have hS3 : w3.cell? ⟨P, 0, none⟩ = some (.slice paa pan pac) ∧ w3.cell? ⟨P, 1, none⟩ = some (.slice pba pbn pbc) ∧ w3.cell? ⟨T, 3, none⟩ = some (.int .i64 x.1) ∧ w3.cell? ⟨T, 4, none⟩ = some (.int .i64 x.2) ∧ w3.cell? ⟨T, 5, none⟩ = some (.int .i64 y.1) ∧ w3.cell? ⟨T, 6, none⟩ = some (.int .i64 y.2) := unhide HSP w3 hb3X)
       | (go_at_call 19; refine (unhide HC _ _ hb3X ho3.fsv).mono ?_; rintro e w9 ⟨v9, xs9, rfl, ho9, hb9⟩; have hb9X : Below X.heap.size X w9 := hb3X.trans (hb9.mono hb3X.size); have hS9 : w9.cell? ⟨P, 0, none⟩ = some (.slice paa pan pac) ∧ w9.cell? ⟨P, 1, none⟩ = some (.slice pba pbn pbc) ∧ w9.cell? ⟨T, 3, none⟩ = some (.int .i64 x.1) ∧ w9.cell? ⟨T, 4, none⟩ = some (.int .i64 x.2) ∧ w9.cell? ⟨T, 5, none⟩ = some (.int .i64 y.1) ∧ w9.cell? ⟨T, 6, none⟩ = some (.int .i64 y.2) := unhide HSP w9 hb9X))
    have HOF9 := hide ho9.fsv
    have HOF7n := hide ((unhide HOF7).below hb9X (Nat.le_refl _))
    have HOF9n := hide (unhide HOF9)
    have HUn := hide ((unhide HU).below hb9X)
    have HFINn : Hid (∀ Y, Below w9.heap.size w9 Y → Below w.heap.size w Y) := fun Y hbY => unhide HFIN Y (hb9X.trans (hbY.mono hb9X.size))
    clear HU HFIN HSP HD HC22 g0 g1 g2 g3 g4 g5 ho9 hb9 hb9X hS3 hS9 ho3 hb3 hb3X HC o2
    (try clear HOF7)
    (try clear HOF9)
    obtain ⟨X, hXn⟩ : ∃ Z, Z = w9 := ⟨_, rfl⟩
    subst hXn
    have HU := HUn
    clear HUn
    have HFIN := HFINn
    clear HFINn
    have HOF7 := HOF7n
    clear HOF7n
    have HOF9 := HOF9n
    clear HOF9n
    have HC22 := hide (fun (Y : World) (hb : Below X.heap.size X Y) => copyMs_any ((unhide HU).below hb).fl (unhide HfN) (fun g hg => Nat.le_of_lt (unhide HS g hg)))
    have HSP := hide (fun (Y : World) (hb : Below X.heap.size X Y) => ((unhide HU).below hb).cells)
    have HD : Hid (Below X.heap.size X X.drew) := below_drw (Below.refl _ X)
    obtain ⟨g0, g1, g2, g3, g4, g5⟩ := (unhide HU).cells
    obtain ⟨M, hM⟩ : ∃ M, Hid (m + 1 = M) := ⟨_, hide rfl⟩
    have hlM : (fs.take m).length + 1 = M := by have := unhide hM; have := unhide hNN; rw [List.length_take]; omega
    obtain ⟨a7, c7, e7, h7a, h7b⟩ : ∃ a c, v7 = .slice a M c ∧ M ≤ c ∧ c ≤ maxLen := by obtain ⟨a, c, e, h1, h2⟩ := (unhide HOF7).shape; rw [Option.getD_some, List.length_append, List.length_singleton, hlM] at e h1; exact ⟨a, c, e, h1, h2⟩
    obtain ⟨a9, c9, e9, h9a, h9b⟩ : ∃ a c, v9 = .slice a M c ∧ M ≤ c ∧ c ≤ maxLen := by obtain ⟨a, c, e, h1, h2⟩ := (unhide HOF9).shape; rw [Option.getD_some, List.length_append, List.length_singleton, hlM] at e h1; exact ⟨a, c, e, h1, h2⟩
    subst e7 e9
    simp only [Option.getD_some] at HOF7 HOF9
    have hmM : m < M := by have := unhide hM; omega
    have hMN : M ≤ N := by have := unhide hM; omega
    have hM0 : 0 < M := by omega
    unfold maxLen at hcm h7b h9b
    have HT7 : Hid (FsV X (.slice a7 m c7) (fs.take m)) := by have := (unhide HOF7).upto (k := m) (by simp; have := unhide hNN; omega); rw [List.take_append_of_le_length (by rw [List.length_take]; have := unhide hNN; omega), List.take_take, Nat.min_self] at this; exact this
    have HT9 : Hid (FsV X (.slice a9 m c9) (fs.take m)) := by have := (unhide HOF9).upto (k := m) (by simp; have := unhide hNN; omega); rw [List.take_append_of_le_length (by rw [List.length_take]; have := unhide hNN; omega), List.take_take, Nat.min_self] at this; exact this
    have HTl : Hid (FsV X (.slice a m cap) (fs.take m)) := (unhide HU).fl.upto (k := m) (by have := unhide hNN; omega)
    have hg7 : (fs.take m ++ [G1])[m]? = some G1 := by rw [List.getElem?_append_right (by rw [List.length_take]; omega), List.length_take, Nat.min_eq_left (by have := unhide hNN; omega), Nat.sub_self]; rfl
    have hg9 : (fs.take m ++ [G2])[m]? = some G2 := by rw [List.getElem?_append_right (by rw [List.length_take]; omega), List.length_take, Nat.min_eq_left (by have := unhide hNN; omega), Nat.sub_self]; rfl
    obtain ⟨b7, q7, s7, d7, e7, l7, k70, k71, k72, hx7, hd7a, hd7b⟩ := FsV.three (unhide HOF7) hg7
    obtain ⟨b9, q9, s9, d9, e9, l9, k90, k91, k92, hx9, hd9a, hd9b⟩ := FsV.three (unhide HOF9) hg9
    obtain ⟨bl, ql, sl, dl, el, ll, kl0, kl1, kl2, hxl, hdla, hdlb⟩ := FsV.three (unhide HU).fl (unhide HF)
    subst e7 e9 el
    obtain ⟨K1, hK1⟩ : ∃ K1, Hid (k + 1 = K1) := ⟨_, hide rfl⟩
    obtain ⟨fn, hfn⟩ : ∃ n, Hid (f.sl.length = n) := ⟨_, hide rfl⟩
    have hl1 : G1.sl.length = K1 := by rw [← unhide hG1, ← unhide hK1]; simp; omega
    have hl2 : G2.sl.length = K1 := by rw [← unhide hG2, ← unhide hK1]; simp; omega
    have hkf : k ≤ fn := by have := unhide hfn; omega
    have hfn1 : fn < 1048576 := by have := unhide HS f (List.mem_of_getElem? (unhide HF)); have := unhide hfn; omega
    have z1 : G1.sl[k]? = some x := by rw [← unhide hG1]; simp [List.getElem?_append, List.length_take, Nat.min_eq_left hkl]
    have z2 : G2.sl[k]? = some y := by rw [← unhide hG2]; simp [List.getElem?_append, List.length_take, Nat.min_eq_left hkl]
    have f1 : G1.fn = f.fn := by rw [← unhide hG1]
    have f2 : G2.fn = f.fn := by rw [← unhide hG2]
    have p2 : G2.pc = G1.pc := by rw [← unhide hG1, ← unhide hG2]
    have tk1 : G1.sl.take k = f.sl.take k := by rw [← unhide hG1]; simp [List.take_append_of_le_length, Nat.min_eq_left hkl]
    have tk2 : G2.sl.take k = f.sl.take k := by rw [← unhide hG2]; simp [List.take_append_of_le_length, Nat.min_eq_left hkl]
    obtain ⟨n7, o7, e7, ln7, z10, z11⟩ := FsV.slot hx7 z1
    obtain ⟨n9, o9, e9, ln9, z20, z21⟩ := FsV.slot hx9 z2
    subst e7 e9
    rw [hl1] at k72 hd7a hx7
    rw [hl2] at k92 hd9a hx9
    rw [f1] at k70
    rw [f2] at k90
    rw [p2] at k91
    have hd : ∀ (l : List (Int × Int)), l.length = k → flt enI l = flt enI l := fun _ _ => rfl
    have hlt : (f.sl.take k).length = k := by rw [List.length_take]; omega
    have HV7 : Hid (Rx X 2 (.slice (some ⟨n7, o7, none⟩) k d7) (f.sl.take k).length (flt enI (f.sl.take k))) := by
      have := Rx.upto hx7 (k := k) (c := d7) (by have := unhide hK1; omega) (by have := unhide hK1; omega) hd7b
      rw [flt_take zI, tk1] at this
      rw [hlt]; exact this
    have HV9 : Hid (Rx X 2 (.slice (some ⟨n9, o9, none⟩) k d9) (f.sl.take k).length (flt enI (f.sl.take k))) := by
      have := Rx.upto hx9 (k := k) (c := d9) (by have := unhide hK1; omega) (by have := unhide hK1; omega) hd9b
      rw [flt_take zI, tk2] at this
      rw [hlt]; exact this
    have HVl : Hid (Rx X 2 (.slice sl k dl) (f.sl.take k).length (flt enI (f.sl.take k))) := by
      have := Rx.upto hxl (k := k) (c := dl) hkl (by omega) hdlb
      rw [flt_take zI] at this
      rw [hlt]; exact this
    rw [unhide hfn] at kl2 hdla
    unfold maxLen at hd7b hd9b hdlb
    have HB7 := hide (Nat.lt_of_lt_of_le l7 (Nat.le_refl _))
    have HTS1 : Hid ((fs.take m).length ≤ 1048576) := by have := unhide HfN; unfold Hid; rw [List.length_take]; omega
    have HTS2 : Hid (∀ g ∈ fs.take m, g.sl.length ≤ 1048576) := fun g hg => Nat.le_of_lt (unhide HS g (List.mem_of_mem_take hg))
    clear hx7 hx9 hxl z1 z2 f1 f2 p2 tk1 tk2 hl1 hl2 hd hlt hg7 hg9 hlM hkl
    have HCELLS : Hid (X.cell? ⟨b7, q7 + m * 3, none⟩ = some (.int .i64 f.fn) ∧ X.cell? ⟨b7, q7 + m * 3 + 1, none⟩ = some (.int .i64 G1.pc) ∧ X.cell? ⟨b7, q7 + m * 3 + 2, none⟩ = some (.slice (some ⟨n7, o7, none⟩) K1 d7) ∧ X.cell? ⟨b9, q9 + m * 3, none⟩ = some (.int .i64 f.fn) ∧ X.cell? ⟨b9, q9 + m * 3 + 1, none⟩ = some (.int .i64 G1.pc) ∧ X.cell? ⟨b9, q9 + m * 3 + 2, none⟩ = some (.slice (some ⟨n9, o9, none⟩) K1 d9) ∧ X.cell? ⟨bl, ql + m * 3, none⟩ = some (.int .i64 f.fn) ∧ X.cell? ⟨bl, ql + m * 3 + 2, none⟩ = some (.slice sl fn dl) ∧ X.cell? ⟨n7, o7 + k * 2, none⟩ = some (.int .i64 x.1) ∧ X.cell? ⟨n7, o7 + k * 2 + 1, none⟩ = some (.int .i64 x.2) ∧ X.cell? ⟨n9, o9 + k * 2, none⟩ = some (.int .i64 y.1) ∧ X.cell? ⟨n9, o9 + k * 2 + 1, none⟩ = some (.int .i64 y.2) ∧ b7 < X.heap.size ∧ b9 < X.heap.size ∧ bl < X.heap.size ∧ n7 < X.heap.size ∧ n9 < X.heap.size) := ⟨k70, k71, k72, k90, k91, k92, kl0, kl2, z10, z11, z20, z21, l7, l9, ll, ln7, ln9⟩
    clear k70 k71 k72 k90 k91 k92 kl0 kl1 kl2 z10 z11 z20 z21 l7 l9 ll ln7 ln9
    have hw1 : IntKind.i64.wrap ((M : Int) - 1) = (m : Int) := by rw [show (M : Int) - 1 = (m : Int) by have := unhide hM; omega]; go_arith
    have m0 : (0 : Int) ≤ (m : Int) := by omega
    have m1 : (m : Int) ≤ (c7 : Int) := by omega
    have m2 : (m : Int) ≤ (c9 : Int) := by omega
    have m3 : (m : Int) ≤ (cap : Int) := by omega
    have m4 : (m : Int) < (M : Int) := by omega
    have m5 : (m : Int) < (N : Int) := by omega
    have hbe := bool_neqF
    have hMe : (((M : Nat) : Int) == 0) = false := by simp; omega
    go_wp2_with fail
    have HC20 := hide (fun (Y : World) (v : Value) (hb : Below X.heap.size X Y) (hv : FsV X v (fs.take m)) => sameMs_any (hv.below hb (Nat.le_refl _)) ((unhide HTl).below hb (Nat.le_refl _)) (unhide HTS1) (unhide HTS2))
    go_region_held3 (fun _ => True) (trivial)
      (first
       | (go_at_call 20; (first | (refine (unhide HC20 _ _ hb11X (unhide HT9)).mono ?_; rintro e w12 ⟨rfl, hb12⟩; have hb12X : Below X.heap.size X w12 := hb11X.trans (hb12.mono hb11X.size)) | (refine (unhide HC20 _ _ (unhide HD) (unhide HT7)).mono ?_; rintro e w11 ⟨rfl, hb11⟩; have hb11X : Below X.heap.size X w11 := (unhide HD).trans hb11))))
    have HC2 : Hid (w12.cell? ⟨b7, q7 + m * 3, none⟩ = some (.int .i64 f.fn) ∧ w12.cell? ⟨b7, q7 + m * 3 + 1, none⟩ = some (.int .i64 G1.pc) ∧ w12.cell? ⟨b7, q7 + m * 3 + 2, none⟩ = some (.slice (some ⟨n7, o7, none⟩) K1 d7) ∧ w12.cell? ⟨b9, q9 + m * 3, none⟩ = some (.int .i64 f.fn) ∧ w12.cell? ⟨b9, q9 + m * 3 + 1, none⟩ = some (.int .i64 G1.pc) ∧ w12.cell? ⟨b9, q9 + m * 3 + 2, none⟩ = some (.slice (some ⟨n9, o9, none⟩) K1 d9) ∧ w12.cell? ⟨bl, ql + m * 3, none⟩ = some (.int .i64 f.fn) ∧ w12.cell? ⟨bl, ql + m * 3 + 2, none⟩ = some (.slice sl fn dl) ∧ w12.cell? ⟨n7, o7 + k * 2, none⟩ = some (.int .i64 x.1) ∧ w12.cell? ⟨n7, o7 + k * 2 + 1, none⟩ = some (.int .i64 x.2) ∧ w12.cell? ⟨n9, o9 + k * 2, none⟩ = some (.int .i64 y.1) ∧ w12.cell? ⟨n9, o9 + k * 2 + 1, none⟩ = some (.int .i64 y.2)) := by
      obtain ⟨h1, h2, h3, h4, h5, h6, h7, h8, h9, h10, h11, h12, l7, l9, ll, ln7, ln9⟩ := unhide HCELLS
      exact ⟨(hb12X.cell (p := ⟨b7, _, none⟩) l7).trans h1, (hb12X.cell (p := ⟨b7, _, none⟩) l7).trans h2, (hb12X.cell (p := ⟨b7, _, none⟩) l7).trans h3, (hb12X.cell (p := ⟨b9, _, none⟩) l9).trans h4, (hb12X.cell (p := ⟨b9, _, none⟩) l9).trans h5, (hb12X.cell (p := ⟨b9, _, none⟩) l9).trans h6, (hb12X.cell (p := ⟨bl, _, none⟩) ll).trans h7, (hb12X.cell (p := ⟨bl, _, none⟩) ll).trans h8, (hb12X.cell (p := ⟨n7, _, none⟩) ln7).trans h9, (hb12X.cell (p := ⟨n7, _, none⟩) ln7).trans h10, (hb12X.cell (p := ⟨n9, _, none⟩) ln9).trans h11, (hb12X.cell (p := ⟨n9, _, none⟩) ln9).trans h12⟩
    have HV7n := hide ((unhide HV7).below hb12X (Nat.le_refl _))
    have HV9n := hide ((unhide HV9).below hb12X (Nat.le_refl _))
    have HVln := hide ((unhide HVl).below hb12X (Nat.le_refl _))
    have HUn := hide ((unhide HU).below hb12X)
    have HFINn : Hid (∀ Y, Below w12.heap.size w12 Y → Below w.heap.size w Y) := fun Y hbY => unhide HFIN Y (hb12X.trans (hbY.mono hb12X.size))
    clear HU HFIN HSP HD HC22 g0 g1 g2 g3 g4 g5 HC20 hb11 hb12 hb11X hb12X HT7 HT9 HTl HTS1 HTS2 HOF7 HOF9 HCELLS HV7 HV9 HVl HB7
    obtain ⟨X, hXn⟩ : ∃ Z, Z = w12 := ⟨_, rfl⟩
    subst hXn
    have HU := HUn
    clear HUn
    have HFIN := HFINn
    clear HFINn
    have HC22 := hide (fun (Y : World) (hb : Below X.heap.size X Y) => copyMs_any ((unhide HU).below hb).fl (unhide HfN) (fun g hg => Nat.le_of_lt (unhide HS g hg)))
    have HSP := hide (fun (Y : World) (hb : Below X.heap.size X Y) => ((unhide HU).below hb).cells)
    have HD : Hid (Below X.heap.size X X.drew) := below_drw (Below.refl _ X)
    obtain ⟨g0, g1, g2, g3, g4, g5⟩ := (unhide HU).cells
    obtain ⟨r0, r1, r2, r3, r4, r5, r6, r7, r8, r9, r10, r11⟩ := unhide HC2
    have hw2 : IntKind.i64.wrap ((K1 : Int) - 1) = (k : Int) := by rw [show (K1 : Int) - 1 = (k : Int) by have := unhide hK1; omega]; go_arith
    have hw3 : IntKind.i64.wrap ((k : Int) + 1) = (K1 : Int) := by rw [show (k : Int) + 1 = (K1 : Int) by have := unhide hK1; omega]; go_arith
    have kk0 : (0 : Int) ≤ (k : Int) := by omega
    have kk1 : (k : Int) < (K1 : Int) := by have := unhide hK1; omega
    have kk2 : ¬ ((k : Int) < 0) := by omega
    have kk3 : (k : Int) ≤ (d7 : Int) := by omega
    have kk4 : (k : Int) ≤ (d9 : Int) := by omega
    have kk5 : (k : Int) ≤ (dl : Int) := by omega
    go_wp2_with fail
    go_quiet (fail)
    obtain ⟨X2, hX2⟩ : ∃ X2, Hid (X.drewN nq = X2) := ⟨_, hide rfl⟩
    have hbq : Below X.heap.size X X2 := by rw [← unhide hX2]; exact (Fr.drewN (S := fun _ => False) nq).below (Nat.le_refl _) (fun _ _ e => e)
    rw [unhide hX2]
    have r2' : X2.cell? ⟨b7, q7 + m * 3 + 2, none⟩ = some (.slice (some ⟨n7, o7, none⟩) K1 d7) := by rw [← unhide hX2]; exact r2
    have r5' : X2.cell? ⟨b9, q9 + m * 3 + 2, none⟩ = some (.slice (some ⟨n9, o9, none⟩) K1 d9) := by rw [← unhide hX2]; exact r5
    have r7' : X2.cell? ⟨bl, ql + m * 3 + 2, none⟩ = some (.slice sl fn dl) := by rw [← unhide hX2]; exact r7
    have HW7 := hide ((unhide HV7n).below hbq (Nat.le_refl _))
    have HW9 := hide ((unhide HV9n).below hbq (Nat.le_refl _))
    have HWl := hide ((unhide HVln).below hbq (Nat.le_refl _))
    have HF2 : Hid (∀ Y, Below X2.heap.size X2 Y → Below w.heap.size w Y) := fun Y hbY => unhide HFIN Y (hbq.trans (hbY.mono hbq.size))
    clear hX2 hbq r0 r1 r2 r3 r4 r5 r6 r7 r8 r9 r10 r11 HV7n HV9n HVln HU HFIN HSP HD HC22 g0 g1 g2 g3 g4 g5 HC2
    have l7 := World.block_lt_of_cell? _ _ r2'
    have l9 := World.block_lt_of_cell? _ _ r5'
    have ll := World.block_lt_of_cell? _ _ r7'
    have HSP : Hid (∀ Y, Below X2.heap.size X2 Y → Y.cell? ⟨b7, q7 + m * 3 + 2, none⟩ = some (.slice (some ⟨n7, o7, none⟩) K1 d7) ∧ Y.cell? ⟨b9, q9 + m * 3 + 2, none⟩ = some (.slice (some ⟨n9, o9, none⟩) K1 d9) ∧ Y.cell? ⟨bl, ql + m * 3 + 2, none⟩ = some (.slice sl fn dl)) := (have e1 := hide r2'; have e2 := hide r5'; have e3 := hide r7'; fun Y hb => ⟨(hb.cell (p := ⟨b7, _, none⟩) l7).trans (unhide e1), (hb.cell (p := ⟨b9, _, none⟩) l9).trans (unhide e2), (hb.cell (p := ⟨bl, _, none⟩) ll).trans (unhide e3)⟩)
    have HD : Hid (Below X2.heap.size X2 X2.drew) := below_drw (Below.refl _ X2)
    have HTL : Hid ((f.sl.take k).length ≤ 8796093021952) := by unfold Hid; rw [List.length_take]; have := unhide hfn; omega
    have HC42 := hide (fun (Y : World) (v : Value) (hb : Below X2.heap.size X2 Y) (hv : Rx X2 2 v (f.sl.take k).length (flt enI (f.sl.take k))) => sameV_any (hv.below hb (Nat.le_refl _)) ((unhide HWl).below hb (Nat.le_refl _)) (unhide HTL))
    go_wp2_with fail
    go_region_held3 (fun w' => w'.cell? ⟨b7, q7 + m * 3 + 2, none⟩ = some (.slice (some ⟨n7, o7, none⟩) K1 d7) ∧ w'.cell? ⟨b9, q9 + m * 3 + 2, none⟩ = some (.slice (some ⟨n9, o9, none⟩) K1 d9) ∧ w'.cell? ⟨bl, ql + m * 3 + 2, none⟩ = some (.slice sl fn dl)) (first | go_keep | exact hS14 | exact hS13)
      (first
       | (go_at_call 42; (first | (refine (unhide HC42 _ _ hb13X (unhide HW9)).mono ?_; rintro e w14 ⟨rfl, hb14⟩; have hb14X : Below X2.heap.size X2 w14 := hb13X.trans (hb14.mono hb13X.size); have hS14 := unhide HSP w14 hb14X) | (refine (unhide HC42 _ _ (unhide HD) (unhide HW7)).mono ?_; rintro e w13 ⟨rfl, hb13⟩; have hb13X : Below X2.heap.size X2 w13 := (unhide HD).trans hb13; have hS13 := unhide HSP w13 hb13X))))
    have HE := hide (unhide HF2 _ hb14X)
    clear hS13 hS14 hb13 hb14 hb13X hb14X HC42 HF2 HSP
    go_wp2_with fail
    go_ret
    exact ⟨rfl, unhide HE⟩
end Go.Proofs.Ytfcgpafjhifogaa
