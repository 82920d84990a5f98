/-
  OverRegs: a code of one's own is written over.
-/
import Derived.Test.YtpbdpejhjdoleaaPri
import Derived.Test.YtpbdpejhjdoleaaRgC
namespace Go.Proofs.Ytpbdpejhjdoleaa
open Go.RowKit
set_option linter.unusedVariables false
set_option linter.unusedSimpArgs false
/-- Things with blocks of their own, apart from each other and from the row. -/
structure AO {T : Type} (bl : T → Nat → Prop) (B : Nat) (v : Value) (xs : List T) : Prop where
  eb : ∀ (i : Nat) (x : T) (k : Nat), xs[i]? = some x → bl x k → k < B ∧ v.ownBlock ≠ some k
  ap : ∀ (i j : Nat) (x y : T) (k : Nat), i ≠ j → xs[i]? = some x → xs[j]? = some y → bl x k → ¬ bl y k
/-- The first i things are written over; of those from iu on the own blocks are as they were. -/
structure SP {T : Type} (en : T → List Value) (sz : Nat) (bl : T → Nat → Prop) (w0 : World) (v : Value) (xs : List T) (i iu : Nat) (w : World) : Prop where
  fr : Fr (fun q => v.ownBlock = some q ∨ ∃ x ∈ xs, bl x q) w0 w
  row : ∃ ys : List T, ys.length = xs.length ∧ Ro w sz v xs.length (flt en ys) ∧ ∀ j, i ≤ j → ys[j]? = xs[j]?
  un : ∀ (j : Nat) (x : T) (q : Nat), iu ≤ j → xs[j]? = some x → bl x q → w.heap[q]? = w0.heap[q]?
section
variable {T : Type} {en : T → List Value} {sz : Nat} {bl : T → Nat → Prop} {w0 w w' : World} {v : Value} {xs : List T} {i iu : Nat}
theorem AO.none (B : Nat) (v : Value) (xs : List T) : AO (fun _ _ => False) B v xs := ⟨fun _ _ _ _ h => h.elim, fun _ _ _ _ _ _ _ _ h => h.elim⟩
theorem AO.of_ow {U : Type} {P : World → U → T → Prop} {Z : Nat → Prop} {us : List U} (h : OW en sz P bl Z w v us xs) : AO bl w.heap.size v xs :=
  ⟨fun i x k hx hk => (h.eb i x k hx hk).2, fun i j x y k => h.ap i j x y k⟩
theorem AO.mono {B B' : Nat} (h : AO bl B v xs) (hb : B ≤ B') : AO bl B' v xs := ⟨fun i x k hx hk => ⟨Nat.lt_of_lt_of_le (h.eb i x k hx hk).1 hb, (h.eb i x k hx hk).2⟩, h.ap⟩
theorem SP.start (h : Ro w0 sz v xs.length (flt en xs)) : SP en sz bl w0 v xs 0 0 w0 := ⟨Fr.refl _ _, ⟨xs, rfl, h, fun _ _ => rfl⟩, fun _ _ _ _ _ _ => rfl⟩
/-- What is not written over can be read as it was. -/
theorem SP.same (h : SP en sz bl w0 v xs i iu w) : Fr (fun q => w.heap[q]? ≠ w0.heap[q]?) w0 w :=
  ⟨h.fr.os, h.fr.tape, h.fr.output, h.fr.size, fun k _ hn => Classical.not_not.1 hn⟩
theorem SP.on (a : AO bl w0.heap.size v xs) (h : SP en sz bl w0 v xs i iu w) (f : Below w.heap.size w w') : SP en sz bl w0 v xs i iu w' := by
  obtain ⟨ys, h1, h2, h3⟩ := h.row
  have hs := h.fr.size
  refine ⟨h.fr.comp (Fr.of_below (S := fun _ => False) f) (fun _ _ e => e.elim), ⟨ys, h1, h2.fr (Fr.of_below (S := fun _ => False) f) (fun _ _ e => e), h3⟩, fun j x q hj hx hq => ?_⟩
  exact (f.block q (by have := (a.eb j x q hx hq).1; omega)).trans (h.un j x q hj hx hq)
theorem SP.inner (a : AO bl w0.heap.size v xs) (h : SP en sz bl w0 v xs i i w) {x : T} (hx : xs[i]? = some x) {S : Nat → Prop} (f : Fr S w w') (hS : ∀ q, q < w.heap.size → S q → bl x q) : SP en sz bl w0 v xs i (i + 1) w' := by
  obtain ⟨ys, h1, h2, h3⟩ := h.row
  have hs := h.fr.size
  refine ⟨h.fr.comp f (fun q hq e => .inr ⟨x, List.mem_of_getElem? hx, hS q (by omega) e⟩), ⟨ys, h1, h2.fr f (fun q hq e => (a.eb i x q hx (hS q (h2.lt q hq) e)).2 hq), h3⟩, fun j y q hj hy hq => ?_⟩
  have hl := (a.eb j y q hy hq).1
  exact (f.block q (by omega) (fun e => a.ap j i y x q (by omega) hy hx hq (hS q (by omega) e))).trans (h.un j y q (by omega) hy hq)
/-- Where a thing lies. -/
theorem SP.cells (hz : ∀ x, (en x).length = sz) (h : SP en sz bl w0 v xs i iu w) {j : Nat} (hj : i ≤ j) {x : T} (hx : xs[j]? = some x) :
    ∃ g off cap, v = .slice (some ⟨g, off, none⟩) xs.length cap ∧ xs.length ≤ cap ∧ cap ≤ maxLen ∧ g < w.heap.size ∧ (∀ c u, (en x)[c]? = some u → w.cell? ⟨g, off + j * sz + c, none⟩ = some u) ∧ ∀ c, w.frozen? ⟨g, c, none⟩ = false := by
  obtain ⟨ys, h1, h2, h3⟩ := h.row
  have hy : ys[j]? = some x := (h3 j hj).trans hx
  have hr := Rx.of_ro h2
  rw [← h1] at hr
  obtain ⟨b, off, cap, e, q1, q2, q3, q4⟩ := hr.elem hz hy
  rw [h1] at e q1
  exact ⟨b, off, cap, e, q1, q2, q3, q4, fun c => h2.free e c⟩
/-- One thing is written over. -/
theorem SP.put (hz : ∀ x, (en x).length = sz) (a : AO bl w0.heap.size v xs) (h : SP en sz bl w0 v xs i iu w) {g off n cap : Nat} (e : v = .slice (some ⟨g, off, none⟩) n cap) (hi : i < xs.length) (x' : T) :
    SP en sz bl w0 v xs (i + 1) iu (w.setCells g (off + i * sz) (en x')) := by
  obtain ⟨ys, h1, h2, h3⟩ := h.row
  obtain ⟨a0, c0, e0, _⟩ := h2.shape
  have hn : n = xs.length := by rw [e] at e0; cases e0; rfl
  subst hn
  obtain ⟨r1, r2⟩ := h2.putAt hz h1 e hi x'
  refine ⟨h.fr.comp r2 (fun q hq e2 => .inl (by have e2' : q = g := e2; rw [e, e2']; rfl)), ⟨ys.set i x', by rw [List.length_set]; exact h1, r1, fun j hj => by rw [List.getElem?_set_ne (by omega)]; exact h3 j (by omega)⟩, fun j x q hj hx hq => ?_⟩
  have hl := a.eb j x q hx hq
  have hs := h.fr.size
  exact (r2.block q (by omega) (fun e2 => hl.2 (by have e2' : q = g := e2; rw [e, e2']; rfl))).trans (h.un j x q hj hx hq)
end
/-- A code that was handed in: its blocks are its own, all apart. -/
theorem XP.take {T : Nat → Nat} {B : Nat} {bl : List Bk} {w : World} {X : List TB} (h : XP T B bl w X) (n : Nat) : XP T B bl w (X.take n) := by
  have key : ∀ (i : Nat) (x : TB), (X.take n)[i]? = some x → X[i]? = some x := fun i x hx => by
    rw [List.getElem?_take] at hx
    split at hx
    · exact hx
    · cases hx
  exact ⟨fun j b x hb hx => h.el j b x hb (key j x hx), fun x k hx hk => h.bt x k (List.mem_of_mem_take hx) hk, fun i j x y k hij hx hy => h.ap i j x y k hij (key i x hx) (key j y hy)⟩

set_option linter.unusedVariables false
set_option linter.unusedSimpArgs false
abbrev no {A : Type} : A → Nat → Prop := fun _ _ => False
theorem SP.frn {A : Type} {en : A → List Value} {sz : Nat} {w0 w : World} {v : Value} {xs : List A} {i iu : Nat} (h : SP en sz no w0 v xs i iu w) : Fr (fun q => v.ownBlock = some q) w0 w :=
  h.fr.mono (fun k _ e => e.elim id (fun ⟨_, _, q⟩ => q.elim))
def blR (r : ShR) (k : Nat) : Prop := r.v.ownBlock = some k
/-- A thing is as it was at a time. -/
theorem SP.keep {A U : Type} {en : A → List Value} {sz : Nat} {bl : A → Nat → Prop} {P : World → U → A → Prop} (hP : Stays P bl) {w0 w : World} {v : Value} {xs : List A} {i iu j : Nat} (h : SP en sz bl w0 v xs i iu w) (hj : iu ≤ j) {u : U} {x : A} (hx : xs[j]? = some x) (hp : P w0 u x) : P w u x :=
  hP _ w0 w u x hp h.same (fun k hk e => e (h.un j x k hj hx hk))
set_option maxRecDepth 100000 in
set_option maxHeartbeats 12800000 in
theorem overRegs_any {B : Nat} {Z : Nat → Prop} {w : World} {fn regs : Int} {blv : Value} {bl : List Bk} {X : List TB} (hO : OW enTB 3 (PB B) blB Z w blv bl X) :
    Calls Try.prog 13 #[.agg #[.int .i64 fn, .int .i64 regs, blv]] w fun e w' => e = .returned (.tuple #[]) ∧ Fr (fun q => blv.ownBlock = some q ∨ ∃ x ∈ X, blB x q) w w' := by
  obtain ⟨a, acap, rfl, ha1, ha2⟩ := hO.row.shape
  unfold maxLen at ha2
  have hXl := hO.len
  have hin : ∀ q, ((Value.slice a bl.length acap).ownBlock = some q ∨ ∃ x ∈ X, blB x q) → q < w.heap.size := fun q hq => (hO.in hq).2
  obtain ⟨L, hL⟩ : ∃ L, Hid (bl.length = L) := ⟨_, hide rfl⟩
  obtain ⟨w0, hw0⟩ : ∃ w0, Hid (w.alloc (.cells #[.int .i64 fn, .int .i64 regs, .slice a bl.length acap] 24) = w0) := ⟨_, hide rfl⟩
  have hb0 : Below w.heap.size w w0 := by rw [← unhide hw0]; exact box1n w _
  have hx0 : w0.heap[w.heap.size]? = some (.cells #[.int .i64 fn, .int .i64 regs, .slice a bl.length acap] 24) := by rw [← unhide hw0]; exact heap_alloc_new w _
  have hs0 : w.heap.size < w0.heap.size := by rw [← unhide hw0]; simp
  have hO0 := hO.below (stayB B) hb0
  have HEL := hide hO0.el
  have HAO := hide (AO.of_ow hO0)
  have HS0 := hide (SP.start (bl := blB) (show Ro w0 3 (.slice a bl.length acap) X.length (flt enTB X) by rw [hXl]; exact hO0.row))
  have HIN := hide hin
  have HCB : Hid (∀ (W : World) (i iu : Nat), SP enTB 3 blB w0 (.slice a bl.length acap) X i iu W → W.cell? ⟨w.heap.size, 2, none⟩ = some (.slice a bl.length acap) ∧ w.heap.size < W.heap.size ∧ w0.heap.size ≤ W.heap.size) := fun W i iu h =>
    ⟨(blk_cells ((h.fr.block w.heap.size hs0 (fun e => by have := hin _ e; omega)).trans hx0)).1 2, Nat.lt_of_lt_of_le hs0 h.fr.size, h.fr.size⟩
  have HB0 := hide hb0
  have HXL := hide hXl
  rw [unhide hL] at ha1 HAO HS0 HIN HCB hw0 HXL ⊢
  have hw0' := unhide hw0
  clear hO hO0 hx0 hin hb0 hXl
  go_enter Try.func13, Try.ntmps13
  go_wp2_with fail
  clear hw0' hw0
  go_loopg [2] L (fun g t2 wr => ∃ (i : Nat), Hid (i + g = L) ∧ t2 = .int .i64 (i : Int) ∧ Hid (SP enTB 3 blB w0 (.slice a L acap) X i i wr))
  case atStart => exact ⟨0, by unfold Hid; omega, rfl, HS0⟩
  case round =>
    clear HS0
    obtain ⟨i, hi, rfl, hS⟩ := hrel
    obtain ⟨z2, zl, zs⟩ := unhide HCB _ _ _ (unhide hS)
    by_cases hlt : i < L
    · obtain ⟨u, hu⟩ : ∃ u, bl[i]? = some u := ⟨_, List.getElem?_eq_getElem (by rw [unhide hL]; exact hlt)⟩
      obtain ⟨x, hx⟩ : ∃ x, X[i]? = some x := ⟨_, List.getElem?_eq_getElem (by rw [unhide HXL]; exact hlt)⟩
      obtain ⟨g, off, cap, e, _, _, hg, hc, hf⟩ := (unhide hS).cells zTB (Nat.le_refl i) hx
      rw [unhide HXL] at e
      cases e
      have hP := (unhide hS).keep (stayB B) (Nat.le_refl i) hx (unhide HEL i u x hu hx)
      obtain ⟨⟨pc, iv, nv⟩, ts⟩ := x
      have hpc : pc = u.pc := hP.pc
      subst hpc
      obtain ⟨ia, ic, eiv, hi1, hi2⟩ := hP.ow.row.shape
      obtain ⟨na, nc, env, hn1, hn2⟩ := hP.nx.shape
      dsimp only at eiv env
      subst eiv env
      unfold maxLen at hi2 hn2
      have HX1 := hide hx
      have k0 : wr.cell? ⟨g, off + i * 3, none⟩ = some (.int .i64 u.pc) := hc 0 _ rfl
      have k1 : wr.cell? ⟨g, off + i * 3 + 1, none⟩ = some (.slice ia u.ins.length ic) := hc 1 _ rfl
      have k2 : wr.cell? ⟨g, off + i * 3 + 2, none⟩ = some (.slice na u.nx.length nc) := hc 2 _ rfl
      have i0 : (0 : Int) ≤ (i : Int) := by omega
      have i1 : (i : Int) < (L : Int) := by omega
      obtain ⟨N, hN⟩ : ∃ N, Hid (u.ins.length = N) := ⟨_, hide rfl⟩
      obtain ⟨M, hM⟩ : ∃ M, Hid (u.nx.length = M) := ⟨_, hide rfl⟩
      obtain ⟨W1, hW1⟩ : ∃ W1, Hid (wr.alloc (.cells #[.int .i64 u.pc, .slice ia u.ins.length ic, .slice na u.nx.length nc] 43) = W1) := ⟨_, hide rfl⟩
      have hb1 : Below wr.heap.size wr W1 := by rw [← unhide hW1]; exact box1n wr _
      have hx1 : W1.heap[wr.heap.size]? = some (.cells #[.int .i64 u.pc, .slice ia u.ins.length ic, .slice na u.nx.length nc] 43) := by rw [← unhide hW1]; exact heap_alloc_new wr _
      have hs1 : wr.heap.size < W1.heap.size := (blk_cells hx1).2.2
      have hP1 := stayB B _ _ _ _ _ hP (Fr.of_below (S := fun _ => False) hb1) (fun _ _ e => e)
      have hgt : ∀ k, blB ((⟨u.pc, .slice ia u.ins.length ic, .slice na u.nx.length nc⟩ : BkR), ts) k → k < wr.heap.size := fun k hk => (hP.gt hk).2
      have HBL := hide hgt
      have HB1 := hide hb1
      have hS1 := SP.start (bl := no) hP1.nx
      dsimp only at hS1
      have HOW := hide hP1.ow
      dsimp only at HOW
      have HNB := hide hP1.nb
      dsimp only at HNB
      have HBX := hide (blk_cells hx1).1
      have htl := hP1.ow.len
      dsimp only at htl
      have HTL := hide htl
      rw [unhide hN] at hi1 k1 HOW hW1 HBL HBX HTL HX1
      rw [unhide hM] at hn1 k2 hS1 hW1 HBL HBX HNB HX1
      rw [unhide hN] at HNB
      have HSN := hide hS1
      have hW1' := unhide hW1
      obtain ⟨G0, hG0⟩ : ∃ G0 : Nat, Hid (G0 = gk) := ⟨_, rfl⟩
      obtain ⟨Wi, rfl⟩ : ∃ Wi, Wi = wr := ⟨_, rfl⟩
      clear hc hf hP hP1 hgt hb1 hx1 hS1 hu hx htl
      go_wp2_with fail
      clear hW1' hW1 k0 k1 k2 z2 zl hg
      go_loopg [4] M (fun g t4 wr => ∃ (j : Nat), Hid (j + g = M) ∧ t4 = .int .i64 (j : Int) ∧ Hid (SP enI 1 no W1 (.slice na M nc) u.nx j 0 wr))
      case atStart => exact ⟨0, by unfold Hid; omega, rfl, HSN⟩
      case round =>
        clear HSN
        obtain ⟨j, hj, rfl, hSN⟩ := hrel
        have hfN := (unhide hSN).frn
        have hbb : wr.heap[Wi.heap.size]? = W1.heap[Wi.heap.size]? := hfN.block _ hs1 (fun e => by have := unhide HBL _ (.inr (.inr e)); omega)
        have hbl : Wi.heap.size < wr.heap.size := Nat.lt_of_lt_of_le hs1 hfN.size
        have y2 : wr.cell? ⟨Wi.heap.size, 2, none⟩ = some (.slice na M nc) := (World.cell?_of_block (a := ⟨Wi.heap.size, 2, none⟩) hbb).trans (unhide HBX 2)
        have y1 : wr.cell? ⟨Wi.heap.size, 1, none⟩ = some (.slice ia N ic) := (World.cell?_of_block (a := ⟨Wi.heap.size, 1, none⟩) hbb).trans (unhide HBX 1)
        by_cases hlt2 : j < M
        · obtain ⟨n, hn⟩ : ∃ n, u.nx[j]? = some n := ⟨_, List.getElem?_eq_getElem (by rw [unhide hM]; exact hlt2)⟩
          obtain ⟨gn, on, cn, e, _, _, hgn, hcn, hfn⟩ := (unhide hSN).cells zI (Nat.le_refl j) hn
          rw [unhide hM] at e
          cases e
          have k0 : wr.cell? ⟨gn, on + j, none⟩ = some (.int .i64 n) := by have := hcn 0 _ rfl; rwa [Nat.mul_one, Nat.add_zero] at this
          have kf := hfn (on + j)
          have HP := hide ((unhide hSN).put zI (AO.none _ _ _) rfl (by rw [unhide hM]; exact hlt2) (-77))
          rw [Nat.mul_one] at HP
          have j0 : (0 : Int) ≤ (j : Int) := by omega
          have j1 : (j : Int) < (M : Int) := by omega
          clear hcn hfn hfN hbb y1 hn
          go_wp2_with fail
          go_roundg (gk - 1)
          case measure => have := unhide hj; omega
          case rel => exact ⟨j + 1, by have := unhide hj; unfold Hid; omega, by go_num, HP⟩
        · have hjM : j = M := by have := unhide hj; omega
          subst hjM
          have hOW2 := (unhide HOW).fr stayT hfN (fun k hk hi e => by
            rcases hi with q | ⟨y, hy, q⟩
            · exact (unhide HNB k e).2.1 q
            · exact (unhide HNB k e).2.2 y hy q)
          have HSI0 := SP.start (bl := blT) (show Ro wr 8 (.slice ia N ic) ts.length (flt enT ts) by
            rw [unhide HTL, ← unhide hN]
            have q := hOW2.row
            rw [← unhide hN] at q
            exact q)
          have HSI := hide HSI0
          have HAI := hide (AO.of_ow hOW2)
          have HEI := hide hOW2.el
          obtain ⟨W2, rfl⟩ : ∃ W2, W2 = wr := ⟨_, rfl⟩
          have HFN := hide hfN
          have HIB : Hid (∀ (W : World) (i iu : Nat), SP enT 8 blT W2 (.slice ia N ic) ts i iu W → W.cell? ⟨Wi.heap.size, 1, none⟩ = some (.slice ia N ic) ∧ Wi.heap.size < W.heap.size) := fun W i iu h =>
            ⟨(World.cell?_of_block (a := ⟨Wi.heap.size, 1, none⟩) (h.fr.block Wi.heap.size hbl (fun e => by
              have h1 : Wi.heap.size < Wi.heap.size := unhide HBL _ (e.elim .inl (fun e => .inr (.inl e)))
              omega))).trans y1, Nat.lt_of_lt_of_le hbl h.fr.size⟩
          have hjM0 : (j : Int) ≤ 9223372036854775807 := by omega
          clear hOW2 HSI0 hfN hbb y1
          go_wp2_with fail
          clear y2
          go_loopg [5] N (fun g t5 wr => ∃ (k : Nat), Hid (k + g = N) ∧ t5 = .int .i64 (k : Int) ∧ Hid (SP enT 8 blT W2 (.slice ia N ic) ts k k wr))
          case atStart => exact ⟨0, by unfold Hid; omega, rfl, HSI⟩
          case round =>
            clear HSI
            obtain ⟨k, hk, rfl, hSI⟩ := hrel
            obtain ⟨y1, hbl2⟩ := unhide HIB _ _ _ (unhide hSI)
            by_cases hlt3 : k < N
            · obtain ⟨t, ht⟩ : ∃ t, ts[k]? = some t := ⟨_, List.getElem?_eq_getElem (by rw [unhide HTL]; exact hlt3)⟩
              obtain ⟨x, hx⟩ : ∃ x, u.ins[k]? = some x := ⟨_, List.getElem?_eq_getElem (by rw [unhide hN]; exact hlt3)⟩
              obtain ⟨g8, o8, c8, e, _, _, hg8, hc8, hf8⟩ := (unhide hSI).cells zT (Nat.le_refl k) ht
              rw [unhide HTL] at e
              cases e
              have hT := (unhide hSI).keep stayT (Nat.le_refl k) ht (unhide HEI k x t hx ht)
              obtain ⟨⟨rop, rcode, rdst, av, rn, rpc, rneed, ev⟩, rs⟩ := t
              obtain ⟨aa, ac, eav, ha3, ha4⟩ := hT.a.shape
              obtain ⟨ea, ec, eev, he3, he4⟩ := hT.e.shape
              dsimp only at eav eev
              subst eav eev
              unfold maxLen at ha4 he4
              obtain ⟨NA, hNA⟩ : ∃ NA, Hid (x.args.length = NA) := ⟨_, hide rfl⟩
              obtain ⟨NE, hNE⟩ : ∃ NE, Hid (x.ex.length = NE) := ⟨_, hide rfl⟩
              have k3 : wr.cell? ⟨g8, o8 + k * 8 + 3, none⟩ = some (.slice aa x.args.length ac) := hc8 3 _ rfl
              have k7 : wr.cell? ⟨g8, o8 + k * 8 + 7, none⟩ = some (.slice ea x.ex.length ec) := hc8 7 _ rfl
              have hne8 : ∀ q, blT ((⟨rop, rcode, rdst, .slice aa x.args.length ac, rn, rpc, rneed, .slice ea x.ex.length ec⟩ : InR), rs) q → q ≠ g8 ∧ q ≠ Wi.heap.size := fun q hq => by
                refine ⟨fun e2 => (unhide HAI).eb k _ q ht hq |>.2 (by rw [e2]; rfl), fun e2 => ?_⟩
                have h1 : q < Wi.heap.size := unhide HBL _ (.inr (.inl ⟨_, List.mem_of_getElem? ht, hq⟩))
                omega
              have HNE8 := hide hne8
              obtain ⟨Wk, rfl⟩ : ∃ Wk, Wk = wr := ⟨_, rfl⟩
              have HIK0 : ∀ V : World, Fr (fun q => blT ((⟨rop, rcode, rdst, .slice aa x.args.length ac, rn, rpc, rneed, .slice ea x.ex.length ec⟩ : InR), rs) q) Wk V → V.cell? ⟨Wi.heap.size, 1, none⟩ = some (.slice (some ⟨g8, o8, none⟩) N ic) ∧ Wi.heap.size < V.heap.size ∧ (∀ c u, (enT ((⟨rop, rcode, rdst, .slice aa x.args.length ac, rn, rpc, rneed, .slice ea x.ex.length ec⟩ : InR), rs))[c]? = some u → V.cell? ⟨g8, o8 + k * 8 + c, none⟩ = some u) ∧ (∀ c, V.frozen? ⟨g8, c, none⟩ = false) ∧ g8 < V.heap.size := fun V f =>
                ⟨(f.cell (a := ⟨Wi.heap.size, 1, none⟩) hbl2 (fun e2 => (hne8 _ e2).2 rfl)).trans y1, Nat.lt_of_lt_of_le hbl2 f.size, fun c u hu => (f.cell (a := ⟨g8, o8 + k * 8 + c, none⟩) hg8 (fun e2 => (hne8 _ e2).1 rfl)).trans (hc8 c u hu), fun c => (f.frozen (a := ⟨g8, c, none⟩) hg8 (fun e2 => (hne8 _ e2).1 rfl)).trans (hf8 c), Nat.lt_of_lt_of_le hg8 f.size⟩
              have HIK := hide HIK0
              have hSA := SP.start (bl := no) hT.a
              dsimp only at hSA
              have HTT := hide hT
              have HT1 := hide ht
              rw [unhide hNA] at ha3 hSA HIK HT1 k3
              rw [unhide hNE] at he3 HIK HT1 k7
              have HSA := hide hSA
              obtain ⟨G2, hG2⟩ : ∃ G2 : Nat, Hid (G2 = gk) := ⟨_, rfl⟩
              have k0' : (0 : Int) ≤ (k : Int) := by omega
              have k1' : (k : Int) < (N : Int) := by omega
              clear hc8 hf8 hT hne8 HIK0 hSA ht
              go_wp2_with fail
              clear k3 k7 y1
              go_loopg [6] NA (fun g t6 wr => ∃ (c : Nat), Hid (c + g = NA) ∧ t6 = .int .i64 (c : Int) ∧ Hid (SP enO 2 no Wk (.slice aa NA ac) x.args c 0 wr))
              case atStart => exact ⟨0, by unfold Hid; omega, rfl, HSA⟩
              case round =>
                clear HSA
                obtain ⟨c, hc, rfl, hSA⟩ := hrel
                have hfA : Fr (fun q => blT ((⟨rop, rcode, rdst, .slice aa NA ac, rn, rpc, rneed, .slice ea NE ec⟩ : InR), rs) q) Wk wr := (unhide hSA).frn.mono (fun q _ e => .inl e)
                have HFA := hide hfA
                obtain ⟨y1, hbl3, hc8, hf8, hg8'⟩ := unhide HIK _ hfA
                have k3 : wr.cell? ⟨g8, o8 + k * 8 + 3, none⟩ = some (.slice aa NA ac) := hc8 3 _ rfl
                have k7 : wr.cell? ⟨g8, o8 + k * 8 + 7, none⟩ = some (.slice ea NE ec) := hc8 7 _ rfl
                by_cases hlt4 : c < NA
                · obtain ⟨o, ho⟩ : ∃ o, x.args[c]? = some o := ⟨_, List.getElem?_eq_getElem (by rw [unhide hNA]; exact hlt4)⟩
                  obtain ⟨ga, oa, ca, e, _, _, hga, hca, hfa⟩ := (unhide hSA).cells zO (Nat.le_refl c) ho
                  rw [unhide hNA] at e
                  cases e
                  have q0 : wr.cell? ⟨ga, oa + c * 2, none⟩ = some (.int .i64 o.k) := hca 0 _ rfl
                  have q1 : wr.cell? ⟨ga, oa + c * 2 + 1, none⟩ = some (.int .i64 o.n) := hca 1 _ rfl
                  have qf0 := hfa (oa + c * 2)
                  have qf1 := hfa (oa + c * 2 + 1)
                  have HP := hide ((unhide hSA).put zO (AO.none _ _ _) rfl (by rw [unhide hNA]; exact hlt4) ⟨-77, 0⟩)
                  have j0 : (0 : Int) ≤ (c : Int) := by omega
                  have j1 : (c : Int) < (NA : Int) := by omega
                  clear hca hfa hfA HFA k7 ho hc8 hf8
                  go_wp2_with fail
                  go_roundg (gk - 1)
                  case measure => have := unhide hc; omega
                  case rel => exact ⟨c + 1, by have := unhide hc; unfold Hid; omega, by go_num, HP⟩
                · have hcA : c = NA := by have := unhide hc; omega
                  subst hcA
                  have hTx := unhide HTT
                  have hlen := hTx.len
                  dsimp only at hlen
                  rw [unhide hNE] at hlen
                  have hfv : Fr (fun q => (Value.slice aa c ac).ownBlock = some q) Wk wr := (unhide hSA).frn
                  have hshp : Ro wr 3 (.slice ea NE ec) rs.length (flt enSh rs) := by
                    have q := hTx.e.fr hfv (fun k hk e => by
                      have h1 := hTx.ae k
                      rw [unhide hNA] at h1
                      exact h1 e hk)
                    rw [unhide hNE] at q
                    rw [hlen]
                    exact q
                  have hslt : ∀ (j : Nat) (s : Sh) (r : ShR), x.ex[j]? = some s → rs[j]? = some r → Ro wr 2 r.v s.sl.length (flt enO s.sl) := fun j s r hs hr => (hTx.s j s r hs hr).2.2.fr hfv (fun k hk e => by
                    have h1 := (hTx.asp r k (List.mem_of_getElem? hr) hk).1
                    dsimp only at h1
                    rw [unhide hNA] at h1
                    exact h1 e)
                  have hAE : AO blR wr.heap.size (.slice ea NE ec) rs := ⟨fun j r k hr hk => by
                    obtain ⟨s, hs⟩ : ∃ s, x.ex[j]? = some s := ⟨_, List.getElem?_eq_getElem (by have := (List.getElem?_eq_some_iff.1 hr).1; rw [unhide hNE]; omega)⟩
                    refine ⟨(hslt j s r hs hr).lt k hk, ?_⟩
                    have h1 := (hTx.asp r k (List.mem_of_getElem? hr) hk).2
                    dsimp only at h1
                    rw [unhide hNE] at h1
                    exact h1, fun i j r q k hij hr hq hk => hTx.ss i j r q k hij hr hq hk⟩
                  have HAE := hide hAE
                  have HSLT := hide hslt
                  have HSE := hide (SP.start (bl := blR) hshp)
                  have HLEN := hide hlen
                  obtain ⟨V1, rfl⟩ : ∃ V1, V1 = wr := ⟨_, rfl⟩
                  clear hTx hlen hfv hshp hslt hAE hSA HTT hc8 hf8
                  go_wp2_with fail
                  clear k3 k7 y1
                  go_loopg [7] NE (fun g t7 wr => ∃ (d : Nat), Hid (d + g = NE) ∧ t7 = .int .i64 (d : Int) ∧ Hid (SP enSh 3 blR V1 (.slice ea NE ec) rs d d wr))
                  case atStart => exact ⟨0, by unfold Hid; omega, rfl, HSE⟩
                  case round =>
                    clear HSE
                    obtain ⟨d, hd, rfl, hSE⟩ := hrel
                    have hfE : Fr (fun q => blT ((⟨rop, rcode, rdst, .slice aa c ac, rn, rpc, rneed, .slice ea NE ec⟩ : InR), rs) q) Wk wr := (unhide HFA).trans ((unhide hSE).fr.mono (fun q _ e => e.elim (fun e => .inr (.inl e)) (fun e => .inr (.inr e))))
                    have HFE := hide hfE
                    obtain ⟨y1, hbl3, hc8, hf8, hg8'⟩ := unhide HIK _ hfE
                    have k7 : wr.cell? ⟨g8, o8 + k * 8 + 7, none⟩ = some (.slice ea NE ec) := hc8 7 _ rfl
                    by_cases hlt5 : d < NE
                    · obtain ⟨s, hs⟩ : ∃ s, x.ex[d]? = some s := ⟨_, List.getElem?_eq_getElem (by rw [unhide hNE]; exact hlt5)⟩
                      obtain ⟨r, hr⟩ : ∃ r, rs[d]? = some r := ⟨_, List.getElem?_eq_getElem (by rw [unhide HLEN]; exact hlt5)⟩
                      obtain ⟨ge, oe, ce, e, _, _, hge, hce, hfe⟩ := (unhide hSE).cells zSh (Nat.le_refl d) hr
                      rw [unhide HLEN] at e
                      cases e
                      have hsl : Ro wr 2 r.v s.sl.length (flt enO s.sl) := (unhide HSLT d s r hs hr).fr (unhide hSE).same (fun k hk e => e ((unhide hSE).un d r k (Nat.le_refl d) hr hk))
                      obtain ⟨rf, rp, rv⟩ := r
                      obtain ⟨sa, sc, esv, hs3, hs4⟩ := hsl.shape
                      dsimp only at esv
                      subst esv
                      unfold maxLen at hs4
                      obtain ⟨NS, hNS⟩ : ∃ NS, Hid (s.sl.length = NS) := ⟨_, hide rfl⟩
                      have hneE : ∀ q, blR ⟨rf, rp, .slice sa s.sl.length sc⟩ q → q ≠ ge := fun q hq e2 => ((unhide HAE).eb d _ q hr hq).2 (by rw [e2]; rfl)
                      obtain ⟨Yd, rfl⟩ : ∃ Yd, Yd = wr := ⟨_, rfl⟩
                      have HSD0 : ∀ V : World, Fr (fun q => blR ⟨rf, rp, .slice sa s.sl.length sc⟩ q) Yd V → (∀ c u, (enSh ⟨rf, rp, .slice sa s.sl.length sc⟩)[c]? = some u → V.cell? ⟨ge, oe + d * 3 + c, none⟩ = some u) ∧ (∀ c, V.frozen? ⟨ge, c, none⟩ = false) ∧ ge < V.heap.size := fun V f =>
                        ⟨fun c u hu => (f.cell (a := ⟨ge, oe + d * 3 + c, none⟩) hge (fun e2 => hneE _ e2 rfl)).trans (hce c u hu), fun c => (f.frozen (a := ⟨ge, c, none⟩) hge (fun e2 => hneE _ e2 rfl)).trans (hfe c), Nat.lt_of_lt_of_le hge f.size⟩
                      have HSD := hide HSD0
                      have q2 : Yd.cell? ⟨ge, oe + d * 3 + 2, none⟩ = some (.slice sa s.sl.length sc) := hce 2 _ rfl
                      have hYtpbdpejhjdoleaa := SP.start (bl := no) hsl
                      have HR1 := hide hr
                      dsimp only at hYtpbdpejhjdoleaa
                      rw [unhide hNS] at hs3 HSD q2 hYtpbdpejhjdoleaa HR1
                      have HYtpbdpejhjdoleaa := hide hYtpbdpejhjdoleaa
                      have d0 : (0 : Int) ≤ (d : Int) := by omega
                      have d1 : (d : Int) < (NE : Int) := by omega
                      obtain ⟨G3, hG3⟩ : ∃ G3 : Nat, Hid (G3 = gk) := ⟨_, rfl⟩
                      clear hce hfe hsl hneE HSD0 hYtpbdpejhjdoleaa hr hfE hc8 hf8
                      go_wp2_with fail
                      clear k7 y1 q2
                      go_loopg [8] NS (fun g t8 wr => ∃ (f : Nat), Hid (f + g = NS) ∧ t8 = .int .i64 (f : Int) ∧ Hid (SP enO 2 no Yd (.slice sa NS sc) s.sl f 0 wr))
                      case atStart => exact ⟨0, by unfold Hid; omega, rfl, HYtpbdpejhjdoleaa⟩
                      case round =>
                        clear HYtpbdpejhjdoleaa
                        obtain ⟨f, hf, rfl, hYtpbdpejhjdoleaa⟩ := hrel
                        have hfS : Fr (fun q => blT ((⟨rop, rcode, rdst, .slice aa c ac, rn, rpc, rneed, .slice (some ⟨ge, oe, none⟩) NE ec⟩ : InR), rs) q) Wk wr := (unhide HFE).trans ((unhide hYtpbdpejhjdoleaa).frn.mono (fun q _ e => .inr (.inr ⟨_, List.mem_of_getElem? (unhide HR1), e⟩)))
                        obtain ⟨y1, hbl3, hc8, hf8, hg8'⟩ := unhide HIK _ hfS
                        have k7 : wr.cell? ⟨g8, o8 + k * 8 + 7, none⟩ = some (.slice (some ⟨ge, oe, none⟩) NE ec) := hc8 7 _ rfl
                        obtain ⟨hce, hfe, hge'⟩ := unhide HSD _ (unhide hYtpbdpejhjdoleaa).frn
                        have q2 : wr.cell? ⟨ge, oe + d * 3 + 2, none⟩ = some (.slice sa NS sc) := hce 2 _ rfl
                        by_cases hlt6 : f < NS
                        · obtain ⟨o, ho⟩ : ∃ o, s.sl[f]? = some o := ⟨_, List.getElem?_eq_getElem (by rw [unhide hNS]; exact hlt6)⟩
                          obtain ⟨ga, oa, ca, e, _, _, hga, hca, hfa⟩ := (unhide hYtpbdpejhjdoleaa).cells zO (Nat.le_refl f) ho
                          rw [unhide hNS] at e
                          cases e
                          have q3 : wr.cell? ⟨ga, oa + f * 2, none⟩ = some (.int .i64 o.k) := hca 0 _ rfl
                          have q4 : wr.cell? ⟨ga, oa + f * 2 + 1, none⟩ = some (.int .i64 o.n) := hca 1 _ rfl
                          have qf3 := hfa (oa + f * 2)
                          have qf4 := hfa (oa + f * 2 + 1)
                          have HP := hide ((unhide hYtpbdpejhjdoleaa).put zO (AO.none _ _ _) rfl (by rw [unhide hNS]; exact hlt6) ⟨-77, 0⟩)
                          have j0 : (0 : Int) ≤ (f : Int) := by omega
                          have j1 : (f : Int) < (NS : Int) := by omega
                          clear hca hfa hfS hc8 hf8 hce hfe ho
                          go_wp2_with fail
                          go_roundg (gk - 1)
                          case measure => have := unhide hf; omega
                          case rel => exact ⟨f + 1, by have := unhide hf; unfold Hid; omega, by go_num, HP⟩
                        · have hfN : f = NS := by have := unhide hf; omega
                          subst hfN
                          have e0 : wr.cell? ⟨ge, oe + d * 3, none⟩ = some (.int .i64 rf) := hce 0 _ rfl
                          have e1 : wr.cell? ⟨ge, oe + d * 3 + 1, none⟩ = some (.int .i64 rp) := hce 1 _ rfl
                          have f0 := hfe (oe + d * 3)
                          have f1 := hfe (oe + d * 3 + 1)
                          have f2 := hfe (oe + d * 3 + 2)
                          have HP := hide (((unhide hSE).inner (unhide HAE) (unhide HR1) (unhide hYtpbdpejhjdoleaa).frn (fun q _ e => e)).put zSh (unhide HAE) rfl (by rw [unhide HLEN]; exact hlt5) ⟨-77, 0, .slice none 0 0⟩)
                          clear hfS hc8 hf8 hce hfe
                          go_wp2_with fail
                          go_roundg (G3 - 1)
                          case measure => have h1 := unhide hG3; have h2 := unhide hd; omega
                          case rel => exact ⟨d + 1, by have h1 := unhide hG3; have h2 := unhide hd; unfold Hid; omega, by go_num, HP⟩
                    · have hdE : d = NE := by have := unhide hd; omega
                      subst hdE
                      have m0 : wr.cell? ⟨g8, o8 + k * 8, none⟩ = some (.int .i64 rop) := hc8 0 _ rfl
                      have m1 : wr.cell? ⟨g8, o8 + k * 8 + 1, none⟩ = some (.int .i64 rcode) := hc8 1 _ rfl
                      have m2 : wr.cell? ⟨g8, o8 + k * 8 + 2, none⟩ = some (.int .i64 rdst) := hc8 2 _ rfl
                      have m3 : wr.cell? ⟨g8, o8 + k * 8 + 3, none⟩ = some (.slice aa c ac) := hc8 3 _ rfl
                      have m4 : wr.cell? ⟨g8, o8 + k * 8 + 4, none⟩ = some (.int .i64 rn) := hc8 4 _ rfl
                      have m5 : wr.cell? ⟨g8, o8 + k * 8 + 5, none⟩ = some (.int .i64 rpc) := hc8 5 _ rfl
                      have m6 : wr.cell? ⟨g8, o8 + k * 8 + 6, none⟩ = some (.int .i64 rneed) := hc8 6 _ rfl
                      have f0 := hf8 (o8 + k * 8)
                      have f1 := hf8 (o8 + k * 8 + 1)
                      have f2 := hf8 (o8 + k * 8 + 2)
                      have f3 := hf8 (o8 + k * 8 + 3)
                      have f4 := hf8 (o8 + k * 8 + 4)
                      have f5 := hf8 (o8 + k * 8 + 5)
                      have f6 := hf8 (o8 + k * 8 + 6)
                      have f7 := hf8 (o8 + k * 8 + 7)
                      have HP := hide (((unhide hSI).inner (unhide HAI) (unhide HT1) hfE (fun q _ e => e)).put zT (unhide HAI) rfl (by rw [unhide HTL]; exact hlt3) ((⟨-77, 0, 0, .slice none 0 0, 0, 0, 0, .slice none 0 0⟩ : InR), []))
                      clear hfE hc8 hf8
                      go_wp2_with fail
                      go_roundg (G2 - 1)
                      case measure => have h1 := unhide hG2; have h2 := unhide hk; omega
                      case rel => exact ⟨k + 1, by have h1 := unhide hG2; have h2 := unhide hk; unfold Hid; omega, by go_num, HP⟩
            · have hkN : k = N := by have := unhide hk; omega
              subst hkN
              have hfZ : Fr (fun q => blB ((⟨u.pc, .slice ia k ic, .slice na j nc⟩ : BkR), ts) q) Wi wr := (((Fr.of_below (S := fun q => blB ((⟨u.pc, .slice ia k ic, .slice na j nc⟩ : BkR), ts) q) (unhide HB1))).trans ((unhide HFN).mono (fun q _ e => .inr (.inr e)))).trans ((unhide hSI).fr.mono (fun q _ e => e.elim (fun e => .inl e) (fun e => .inr (.inl e))))
              have hS2 := (unhide hS).inner (unhide HAO) (unhide HX1) hfZ (fun q _ e => e)
              obtain ⟨z2, zl, zs2⟩ := unhide HCB _ _ _ hS2
              obtain ⟨g', o', c', e, _, _, hg', hc', hf'⟩ := hS2.cells zTB (Nat.le_refl i) (unhide HX1)
              rw [unhide HXL] at e
              cases e
              have m0 : wr.cell? ⟨g, off + i * 3, none⟩ = some (.int .i64 u.pc) := hc' 0 _ rfl
              have m1 : wr.cell? ⟨g, off + i * 3 + 1, none⟩ = some (.slice ia k ic) := hc' 1 _ rfl
              have m2 : wr.cell? ⟨g, off + i * 3 + 2, none⟩ = some (.slice na j nc) := hc' 2 _ rfl
              have f0 := hf' (off + i * 3)
              have f1 := hf' (off + i * 3 + 1)
              have f2 := hf' (off + i * 3 + 2)
              have HP := hide (hS2.put zTB (unhide HAO) rfl (by rw [unhide HXL]; exact hlt) ((⟨-77, .slice none 0 0, .slice none 0 0⟩ : BkR), []))
              clear hfZ hS2 hc' hf'
              go_wp2_with fail
              go_roundg (G0 - 1)
              case measure => have h1 := unhide hG0; have h2 := unhide hi; omega
              case rel => exact ⟨i + 1, by have h1 := unhide hG0; have h2 := unhide hi; unfold Hid; omega, by go_num, HP⟩
    · have hiL : i = L := by have := unhide hi; omega
      subst hiL
      go_wp2_with fail
      go_end0
      exact ⟨rfl, (((Fr.of_below (S := fun q => (Value.slice a i acap).ownBlock = some q ∨ ∃ x ∈ X, blB x q) (unhide HB0))).trans (unhide hS).fr)⟩
end Go.Proofs.Ytpbdpejhjdoleaa
