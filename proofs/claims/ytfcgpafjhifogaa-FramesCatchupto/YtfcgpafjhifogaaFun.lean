/-
  Which function a number names; what a frame takes.
-/
import Derived.Test.YtfcgpafjhifogaaFms
import Derived.Laws.ResultCell
namespace Go.Proofs.Ytfcgpafjhifogaa
open Go.RowKit
set_option linter.unusedVariables false
set_option linter.unusedSimpArgs false
/-- The function of a number. -/
def fnAt (p : Pg) (k : Int) : Option Fc := if 0 ≤ k then p.funcs[k.toNat]? else none
def fc0 : Fc := ⟨ByteArray.empty, 0, 0, [], []⟩
theorem fnAt_some {p : Pg} {k : Int} {f : Fc} (h : fnAt p k = some f) : 0 ≤ k ∧ k < p.funcs.length ∧ p.funcs[k.toNat]? = some f := by
  unfold fnAt at h
  split at h
  · have := (List.getElem?_eq_some_iff.1 h).1
    exact ⟨by assumption, by omega, h⟩
  · cases h
theorem fnAt_none {p : Pg} {k : Int} (h : fnAt p k = none) : k < 0 ∨ (p.funcs.length : Int) ≤ k := by
  unfold fnAt at h
  split at h
  · have := List.getElem?_eq_none_iff.1 h
    omega
  · omega
/-- What is answered of a function. -/
def FuP (w : World) (o : Option Fc) (e : Ending) (w' : World) : Prop := ∃ x : Fv, e = .returned (.tuple #[.agg #[.string x.name, .int .i64 x.params, .int .i64 x.locals, x.cv, x.hv], .bool o.isSome]) ∧ FnV w (o.getD fc0) x ∧ Below w.heap.size w w'
set_option maxRecDepth 100000 in
set_option maxHeartbeats 3200000 in
theorem function_any {w : World} {v : Value} {p : Pg} (h : PgV w v p) (k : Int) (hN : p.funcs.length ≤ 1048576) :
    Calls Try.prog 47 #[v, .int .i64 k] w (FuP w (fnAt p k)) := by
  obtain ⟨cv, fv, rfl, hc, hf⟩ := h
  obtain ⟨ca, cc, rfl⟩ : ∃ a c, cv = .slice a p.consts.length c := by obtain ⟨_, a, c, e, _⟩ := hc; exact ⟨a, c, e⟩
  obtain ⟨a, cap, rfl, hlc, hcm, hat⟩ := hf.at
  obtain ⟨NF, hNF⟩ : ∃ n, Hid (p.funcs.length = n) := ⟨_, hide rfl⟩
  rw [unhide hNF] at hN hlc ⊢
  unfold maxLen at hcm
  have HBE : Hid (∀ o1 o2, Below w.heap.size w ((w.alloc o1).alloc o2)) := fun o1 o2 => ((Below.refl _ w).alloc (Nat.le_refl _) o1).alloc (by simp only [World.size_alloc]; omega) o2
  cases hq : fnAt p k with
  | none =>
    have hk := fnAt_none hq
    rw [unhide hNF] at hk
    clear hat hf hc hq
    by_cases kz : k < 0
    · have kz' : decide (k < 0) = true := decide_eq_true kz
      clear hk
      go_enter Try.func47, Try.ntmps47
      go_wp2_with fail
      refine bodyPost_ret (v := .tuple #[.agg #[.string ByteArray.empty, .int .i64 0, .int .i64 0, .slice none 0 0, .slice none 0 0], .bool false]) ?_ rfl ?_
      · rw [results_cell_tmp rfl]
        go_simp
        rfl
      · exact ⟨⟨ByteArray.empty, 0, 0, .slice none 0 0, .slice none 0 0⟩, rfl, ⟨rfl, rfl, rfl, by simpa [flt, fc0] using Rx.nil w 2, by simpa [flt, fc0] using Rx.nil w 4⟩, unhide HBE _ _⟩
    · have kz' : decide (k < 0) = false := decide_eq_false kz
      have kn : decide ((NF : Int) ≤ k) = true := decide_eq_true (by omega)
      clear hk kz
      go_enter Try.func47, Try.ntmps47
      go_wp2_with fail
      refine bodyPost_ret (v := .tuple #[.agg #[.string ByteArray.empty, .int .i64 0, .int .i64 0, .slice none 0 0, .slice none 0 0], .bool false]) ?_ rfl ?_
      · rw [results_cell_tmp rfl]
        go_simp
        rfl
      · exact ⟨⟨ByteArray.empty, 0, 0, .slice none 0 0, .slice none 0 0⟩, rfl, ⟨rfl, rfl, rfl, by simpa [flt, fc0] using Rx.nil w 2, by simpa [flt, fc0] using Rx.nil w 4⟩, unhide HBE _ _⟩
  | some f =>
    obtain ⟨k0, k1, hk⟩ := fnAt_some hq
    obtain ⟨b, off, x, rfl, hb, hx, hcs⟩ := hat _ f hk
    obtain ⟨K, hK⟩ : ∃ K : Nat, Hid (k.toNat = K) := ⟨_, hide rfl⟩
    rw [unhide hK] at hcs hk
    obtain rfl : k = (K : Int) := by have := unhide hK; omega
    obtain ⟨a1, c1, a2, c2, rfl⟩ := hx.parts
    have g0 := hcs 0 _ rfl
    have g1 := hcs 1 _ rfl
    have g2 := hcs 2 _ rfl
    have g3 := hcs 3 _ rfl
    have g4 := hcs 4 _ rfl
    rw [Nat.add_zero] at g0
    rw [unhide hNF] at k1
    have kz : decide ((K : Int) < 0) = false := decide_eq_false (by omega)
    have kn : decide ((NF : Int) ≤ (K : Int)) = false := decide_eq_false (by omega)
    have HX := hide hx
    clear hat hf hc hq hcs hk hx hK
    go_enter Try.func47, Try.ntmps47
    go_wp2_with fail
    refine bodyPost_ret (v := .tuple #[.agg #[.string f.name, .int .i64 f.params, .int .i64 f.locals, .slice a1 f.code.length c1, .slice a2 f.hs.length c2], .bool true]) ?_ rfl ?_
    · rw [results_cell_tmp rfl]
      go_simp
    · exact ⟨_, rfl, unhide HX, unhide HBE _ _⟩
/-- Are there slots for so many locals and so many values upon them? -/
def fitB (l h : Int) (n : Nat) : Bool := decide (0 ≤ l) && decide (0 ≤ h) && decide (h ≤ (n : Int) - l)
set_option maxRecDepth 100000 in
set_option maxHeartbeats 1600000 in
theorem fit_any (w : World) (l h : Int) (n : Nat) (hn : n ≤ 9223372036854775807) (hl : l < 9223372036854775808) :
    Calls Try.prog 64 #[.int .i64 l, .int .i64 h, .int .i64 n] w fun e w' => e = .returned (.bool (fitB l h n)) ∧ w' = w := by
  unfold fitB
  by_cases q1 : 0 ≤ l
  · have d1 : decide (0 ≤ l) = true := decide_eq_true q1
    by_cases q2 : 0 ≤ h
    · have d2 : decide (0 ≤ h) = true := decide_eq_true q2
      rw [d1, d2]
      obtain ⟨D, hD⟩ : ∃ D, Hid (decide (h ≤ (n : Int) - l) = D) := ⟨_, hide rfl⟩
      have hw : IntKind.i64.wrap ((n : Int) - l) = (n : Int) - l := by go_arith
      rw [unhide hD]
      have hD' := unhide hD
      go_enter Try.func64, Try.ntmps64
      go_wp2_with fail
      go_ret
      exact ⟨by rfl, rfl⟩
    · have d2 : decide (0 ≤ h) = false := decide_eq_false q2
      rw [d1, d2]
      go_enter Try.func64, Try.ntmps64
      go_wp2_with fail
      go_ret
      exact ⟨rfl, rfl⟩
  · have d1 : decide (0 ≤ l) = false := decide_eq_false q1
    rw [d1]
    go_enter Try.func64, Try.ntmps64
    go_wp2_with fail
    go_ret
    exact ⟨rfl, rfl⟩
/-- Does a handler take what is thrown in this frame? -/
def tkB (f : Fm) (l : Int) (h : Hd) : Bool := decide (h.frm ≤ f.pc) && decide (f.pc < h.to) && fitB l h.height f.sl.length
/-- How many slots a frame keeps, and where it goes on. -/
def tkG (f : Fm) (g : Fc) : Option (Nat × Int) := (g.hs.find? (tkB f g.locals)).map fun h => ((g.locals + h.height).toNat, h.target)
def tk (p : Pg) (f : Fm) : Option (Nat × Int) := tkG f ((fnAt p f.fn).getD fc0)
def tkV : Option (Nat × Int) → Value
  | none => .tuple #[.int .i64 0, .int .i64 0, .bool false]
  | some (k, t) => .tuple #[.int .i64 (k : Int), .int .i64 t, .bool true]
theorem fitB_le {l h : Int} {n : Nat} (q : fitB l h n = true) : 0 ≤ l ∧ 0 ≤ h ∧ l + h ≤ n := by
  unfold fitB at q
  simp only [Bool.and_eq_true, decide_eq_true_eq] at q
  omega
theorem tk_le {p : Pg} {f : Fm} {k : Nat} {t : Int} (h : tk p f = some (k, t)) : k ≤ f.sl.length := by
  unfold tk tkG at h
  rw [Option.map_eq_some_iff] at h
  obtain ⟨x, hx, e⟩ := h
  have := List.find?_some hx
  unfold tkB at this
  rw [Bool.and_eq_true] at this
  have := fitB_le this.2
  cases e
  omega
theorem find_skip {T : Type} {P : T → Bool} {l : List T} {i : Nat} {x : T} (hx : l[i]? = some x) (h : P x = false) : (l.drop i).find? P = (l.drop (i + 1)).find? P := by
  obtain ⟨hi, e⟩ := List.getElem?_eq_some_iff.1 hx
  rw [List.drop_eq_getElem_cons hi, List.find?_cons, e, h]
theorem find_hit {T : Type} {P : T → Bool} {l : List T} {i : Nat} {x : T} (hx : l[i]? = some x) (h : P x = true) : (l.drop i).find? P = some x := by
  obtain ⟨hi, e⟩ := List.getElem?_eq_some_iff.1 hx
  rw [List.drop_eq_getElem_cons hi, List.find?_cons, e, h]
/-- Two boxes at the head of a call. -/
theorem blk2 (w : World) (o1 o2 : Obj) : ((w.alloc o1).alloc o2).heap[w.heap.size]? = some o1 ∧ ((w.alloc o1).alloc o2).heap[w.heap.size + 1]? = some o2 := by
  refine ⟨?_, ?_⟩
  · rw [Below.heap_alloc _ _ _ (by simp only [World.size_alloc]; omega)]; exact heap_alloc_new w o1
  · have := heap_alloc_new (w.alloc o1) o2
    simpa only [World.size_alloc] using this
theorem Below.alloc2 (w : World) (o1 o2 : Obj) : Below w.heap.size w ((w.alloc o1).alloc o2) := ((Below.refl _ w).alloc (Nat.le_refl _) o1).alloc (by simp only [World.size_alloc]; omega) o2
set_option maxRecDepth 100000 in
set_option maxHeartbeats 6400000 in
theorem takes_any {w : World} {pv fv : Value} {p : Pg} {f : Fm} (h : PgV w pv p) (hf : FmA w fv f) (hN : p.funcs.length ≤ 1048576) (hO : ∀ g, fnAt p f.fn = some g → g.hs.length ≤ 1048576 ∧ g.locals < 9223372036854775808) (hS : f.sl.length ≤ 1048576) :
    Calls Try.prog 54 #[pv, fv] w fun e w' => e = .returned (tkV (tk p f)) ∧ Below w.heap.size w w' := by
  obtain ⟨g, hg⟩ : ∃ g, Hid ((fnAt p f.fn).getD fc0 = g) := ⟨_, hide rfl⟩
  have hgl : g.hs.length ≤ 1048576 ∧ g.locals < 9223372036854775808 := by
    rw [← unhide hg]
    cases q : fnAt p f.fn with
    | none => simp [fc0]
    | some x => exact hO x q
  obtain ⟨hgl, hgm⟩ := hgl
  unfold tk
  rw [unhide hg]
  obtain ⟨sv, rfl, hsv⟩ := hf
  obtain ⟨sa, sc, rfl⟩ : ∃ a c, sv = .slice a f.sl.length c := by obtain ⟨_, a, c, e, _⟩ := hsv; exact ⟨a, c, e⟩
  obtain ⟨pc, pf, rfl⟩ : ∃ a b, pv = .agg #[a, b] := by obtain ⟨a, b, e, _⟩ := h; exact ⟨a, b, e⟩
  have HC := hide (fun o1 o2 => function_any (h.below (Below.alloc2 w o1 o2) (Nat.le_refl _)) f.fn hN)
  clear h hsv hO
  obtain ⟨N, hNs⟩ : ∃ N, Hid (f.sl.length = N) := ⟨_, hide rfl⟩
  rw [unhide hNs] at hS ⊢
  go_enter Try.func54, Try.ntmps54
  go_wp2_with fail
  refine (unhide HC _ _).mono ?_
  rintro e w1 ⟨x, rfl, hx, hb1⟩
  rw [unhide hg] at hx
  obtain ⟨b1, b2⟩ := blk2 w (.cells #[pc, pf] 25) (.cells #[.int .i64 f.fn, .int .i64 f.pc, .slice sa N sc] 30)
  have hx1 := hx.below hb1 (Nat.le_refl _)
  have hsz1 := hb1.size
  have hbw1 := (Below.alloc2 w (.cells #[pc, pf] 25) (.cells #[.int .i64 f.fn, .int .i64 f.pc, .slice sa N sc] 30)).trans (hb1.mono (by simp only [World.size_alloc]; omega))
  have hB2 := (hb1.block (w.heap.size + 1) (by simp only [World.size_alloc]; omega)).trans b2
  simp only [World.size_alloc] at hsz1
  obtain ⟨a1, c1, a2, c2, rfl⟩ := hx1.parts
  have HHS := hide (fun i z (hz : g.hs[i]? = some z) => hx1.2.2.2.2.elem zH hz)
  obtain ⟨NH, hNH⟩ : ∃ n, Hid (g.hs.length = n) := ⟨_, hide rfl⟩
  have HW1 := hide hbw1
  obtain ⟨c20, f20, l20⟩ := blk_cells hB2
  have ca := c20 0
  have cb := c20 1
  have cc := c20 2
  have HBX := hide hB2
  clear hx hx1 hb1 b1 b2 hbw1 c20 f20 hB2 HC
  simp only [unhide hNH] at HHS hgl ⊢
  go_wp2_with fail
  obtain ⟨q, hq⟩ : ∃ q, Hid (w1.heap.size = q) := ⟨_, hide rfl⟩
  obtain ⟨W2, hW2⟩ : ∃ W, Hid (w1.alloc (.cells #[.string g.name, .int .i64 g.params, .int .i64 g.locals, .slice a1 g.code.length c1, .slice a2 NH c2] 83) = W) := ⟨_, hide rfl⟩
  have HBF : Hid (W2.heap[q]? = some (.cells #[.string g.name, .int .i64 g.params, .int .i64 g.locals, .slice a1 g.code.length c1, .slice a2 NH c2] 83)) := by
    rw [← unhide hW2, ← unhide hq]; exact heap_alloc_new w1 _
  have HBX2 : Hid (W2.heap[w.heap.size + 1]? = some (Obj.cells #[Value.int IntKind.i64 f.fn, Value.int IntKind.i64 f.pc, Value.slice sa N sc] 30)) := by
    rw [← unhide hW2, Below.heap_alloc _ _ _ l20]; exact unhide HBX
  have HW12 : Hid (Below w1.heap.size w1 W2) := by rw [← unhide hW2]; exact (Below.refl _ _).alloc (Nat.le_refl _) _
  rw [unhide hW2, unhide hq]
  clear ca cb cc HBX
  go_loopg [21] NH (fun gg t21 wr => ∃ (i : Nat), Hid (i + gg = NH) ∧ t21 = .int .i64 (i : Int) ∧ Hid (Below W2.heap.size W2 wr ∧ g.hs.find? (tkB f g.locals) = (g.hs.drop i).find? (tkB f g.locals)))
  case atStart => exact ⟨0, by unfold Hid; omega, rfl, Below.refl _ _, by simp⟩
  case round =>
    obtain ⟨i, hi, rfl, hG⟩ := hrel
    by_cases hlt : i < NH
    · obtain ⟨z, hz⟩ : ∃ z, g.hs[i]? = some z := ⟨_, List.getElem?_eq_getElem (by rw [unhide hNH]; exact hlt)⟩
      obtain ⟨hb, ho, hc, eh, _, _, hbl, hcs⟩ := unhide HHS i z hz
      cases eh
      have bw := (unhide hG).1
      have hq2 := unhide hq
      have hbl2 : hb < W2.heap.size := Nat.lt_of_lt_of_le hbl (unhide HW12).size
      have e0 : wr.cell? ⟨hb, ho + i * 4, none⟩ = some (.int .i64 z.frm) := (bw.cell (p := ⟨hb, _, none⟩) hbl2).trans (((unhide HW12).cell (p := ⟨hb, _, none⟩) hbl).trans (hcs 0 _ rfl))
      have e1 : wr.cell? ⟨hb, ho + i * 4 + 1, none⟩ = some (.int .i64 z.to) := (bw.cell (p := ⟨hb, _, none⟩) hbl2).trans (((unhide HW12).cell (p := ⟨hb, _, none⟩) hbl).trans (hcs 1 _ rfl))
      have e2 : wr.cell? ⟨hb, ho + i * 4 + 2, none⟩ = some (.int .i64 z.target) := (bw.cell (p := ⟨hb, _, none⟩) hbl2).trans (((unhide HW12).cell (p := ⟨hb, _, none⟩) hbl).trans (hcs 2 _ rfl))
      have e3 : wr.cell? ⟨hb, ho + i * 4 + 3, none⟩ = some (.int .i64 z.height) := (bw.cell (p := ⟨hb, _, none⟩) hbl2).trans (((unhide HW12).cell (p := ⟨hb, _, none⟩) hbl).trans (hcs 3 _ rfl))
      obtain ⟨d1, _, l1⟩ := blk_cells ((bw.block q (blk_cells (unhide HBF)).2.2).trans (unhide HBF))
      obtain ⟨d2, _, l2⟩ := blk_cells ((bw.block (w.heap.size + 1) (blk_cells (unhide HBX2)).2.2).trans (unhide HBX2))
      have g2 := d1 2
      have x1 := d2 1
      have x2 := d2 2
      have hbl3 := Nat.lt_of_lt_of_le hbl2 bw.size
      have i0 : (0 : Int) ≤ (i : Int) := by omega
      have i1 : (i : Int) < (NH : Int) := by omega
      have HFI := hide (fun W => fit_any W g.locals z.height N (by omega) hgm)
      have HZ := hide hz
      have HBW : Hid (∀ o, Below W2.heap.size W2 (wr.alloc o)) := fun o => bw.alloc bw.size o
      clear hcs bw hz d1 d2 hbl hbl2 hq2
      by_cases m1 : z.frm ≤ f.pc
      · have n1 : decide (z.frm ≤ f.pc) = true := decide_eq_true m1
        by_cases m2 : f.pc < z.to
        · have n2 : decide (f.pc < z.to) = true := decide_eq_true m2
          cases m3 : fitB g.locals z.height N with
          | true =>
            have htk : Hid (tkG f g = some ((g.locals + z.height).toNat, z.target)) := by
              unfold Hid tkG
              rw [(unhide hG).2, find_hit (unhide HZ) (by unfold tkB; rw [n1, n2, unhide hNs, m3]; rfl)]
              rfl
            obtain ⟨q1, q2, q3⟩ := fitB_le m3
            obtain ⟨K, hK⟩ : ∃ K : Nat, Hid (g.locals + z.height = (K : Int)) := ⟨(g.locals + z.height).toNat, by unfold Hid; omega⟩
            have hK2 := unhide hK
            have hw : IntKind.i64.wrap (g.locals + z.height) = (K : Int) := by rw [← hK2]; go_arith
            rw [m3] at HFI
            have HFIN : Hid (tkV (tkG f g) = .tuple #[.int .i64 (K : Int), .int .i64 z.target, .bool true]) := by
              unfold Hid
              rw [unhide htk, hK2]
              rfl
            clear m1 m2 m3 htk q1 q2 q3 hK2 hG
            go_wp2_with fail
            refine (unhide HFI _).mono ?_
            rintro e w3 ⟨rfl, ew⟩
            obtain rfl := ew
            clear HFI
            go_wp2_with fail
            go_quiet (fail)
            go_wp2_with fail
            go_ret3
            refine ⟨?_, ?_⟩
            · rw [unhide HFIN]; rfl
            · exact ((unhide HW1).trans ((unhide HW12).mono (by omega))).trans ((((unhide HBW _).trans ((Fr.drewN (S := fun _ => False) nq).below (unhide HBW _).size (fun _ _ e => e)))).mono (by have := (unhide HW12).size; omega))
          | false =>
            rw [m3] at HFI
            have HF2 : Hid (g.hs.find? (tkB f g.locals) = (g.hs.drop (i + 1)).find? (tkB f g.locals)) := by
              unfold Hid
              rw [(unhide hG).2, find_skip (unhide HZ) (by unfold tkB; rw [unhide hNs, m3, Bool.and_false])]
            clear m1 m2 m3 hG
            go_wp2_with fail
            refine (unhide HFI _).mono ?_
            rintro e w3 ⟨rfl, ew⟩
            obtain rfl := ew
            clear HFI
            go_wp2_with fail
            go_roundg (gk - 1)
            case measure => have := unhide hi; omega
            case rel => exact ⟨i + 1, by have := unhide hi; unfold Hid; omega, by go_num, unhide HBW _, unhide HF2⟩
        · have n2 : decide (f.pc < z.to) = false := decide_eq_false m2
          have HF2 : Hid (g.hs.find? (tkB f g.locals) = (g.hs.drop (i + 1)).find? (tkB f g.locals)) := by
            unfold Hid
            rw [(unhide hG).2, find_skip (unhide HZ) (by unfold tkB; rw [n2, Bool.and_false, Bool.false_and])]
          clear m1 m2 hG HFI
          go_wp2_with fail
          go_roundg (gk - 1)
          case measure => have := unhide hi; omega
          case rel => exact ⟨i + 1, by have := unhide hi; unfold Hid; omega, by go_num, unhide HBW _, unhide HF2⟩
      · have n1 : decide (z.frm ≤ f.pc) = false := decide_eq_false m1
        have HF2 : Hid (g.hs.find? (tkB f g.locals) = (g.hs.drop (i + 1)).find? (tkB f g.locals)) := by
          unfold Hid
          rw [(unhide hG).2, find_skip (unhide HZ) (by unfold tkB; rw [n1, Bool.false_and, Bool.false_and])]
        clear m1 hG HFI
        go_wp2_with fail
        go_roundg (gk - 1)
        case measure => have := unhide hi; omega
        case rel => exact ⟨i + 1, by have := unhide hi; unfold Hid; omega, by go_num, unhide HBW _, unhide HF2⟩
    · have hiL : i = NH := by have := unhide hi; omega
      have HFIN : Hid (tkV (tkG f g) = .tuple #[.int .i64 0, .int .i64 0, .bool false]) := by
        unfold Hid tkG
        rw [(unhide hG).2, List.drop_eq_nil_of_le (by rw [unhide hNH]; omega)]
        rfl
      subst hiL
      go_wp2_with fail
      go_ret3
      refine ⟨?_, ?_⟩
      · rw [unhide HFIN]; rfl
      · exact ((unhide HW1).trans ((unhide HW12).mono (by omega))).trans ((unhide hG).1.mono (by have := (unhide HW12).size; omega))
end Go.Proofs.Ytfcgpafjhifogaa
