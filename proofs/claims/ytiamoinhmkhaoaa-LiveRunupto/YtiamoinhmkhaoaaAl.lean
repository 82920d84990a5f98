/-
  apartLists: all lists of codes of one's own are marked, grown, and looked at.
-/
import Derived.Test.YtiamoinhmkhaoaaLo
namespace Go.Proofs.Ytiamoinhmkhaoaa
open Go.RowKit
set_option linter.unusedVariables false
set_option linter.unusedSimpArgs false
/-- The marks. -/
structure Mks where
  p : Nat → Nat → Nat → Int
  n : Nat → Nat → Nat → Int
  c : Nat → Nat → Int
def mkS (m : Mks) (k b i : Nat) (s : Nat) (r : ShR) : ShR := ⟨(k : Int), m.p b i s, r.v⟩
def mkI (m : Mks) (k b : Nat) (i : Nat) (t : TI) : TI := (⟨t.1.op, t.1.code, t.1.dst, t.1.av, t.1.n, t.1.pc, m.n k b i, t.1.ev⟩, t.2.mapIdx (mkS m k b i))
def mkB (m : Mks) (k : Nat) (b : Nat) (x : TB) : TB := (⟨m.c k b, x.1.iv, x.1.nv⟩, x.2.mapIdx (mkI m k b))
def mkC (m : Mks) (k : Nat) (c : TC) : TC := (c.1, c.2.mapIdx (mkB m k))
section
variable {m : Mks}
theorem Ro.cellc {T : Type} {en : T → List Value} {sz : Nat} (hz : ∀ x, (en x).length = sz) {w : World} {g off n cap : Nat} {xs : List T} (h : Ro w sz (.slice (some ⟨g, off, none⟩) n cap) n (flt en xs)) (hl : xs.length = n) {i : Nat} {x : T} (hx : xs[i]? = some x) {c : Nat} {u : Value} (hu : (en x)[c]? = some u) : w.cell? ⟨g, off + i * sz + c, none⟩ = some u := by
  subst hl
  obtain ⟨b, o, cap', e, _, _, _, q⟩ := (Rx.of_ro h).elem hz hx
  cases e
  exact q c u hu
theorem mkI_bl {k b j : Nat} {t : TI} {q : Nat} (h : blE (mkI m k b j t) q) : blE t q := h
theorem mkB_bl {k j : Nat} {x : TB} {q : Nat} (h : blF (mkB m k j x) q) : blF x q := by
  rcases h with h | ⟨t, ht, h⟩
  · exact .inl h
  · obtain ⟨i, hi, rfl⟩ := List.mem_mapIdx.1 ht
    exact .inr ⟨_, List.getElem_mem hi, h⟩
theorem mkC_bl {j : Nat} {c : TC} {q : Nat} (h : blG (mkC m j c) q) : blG c q := by
  rcases h with h | ⟨x, hx, h⟩
  · exact .inl h
  · obtain ⟨i, hi, rfl⟩ := List.mem_mapIdx.1 hx
    exact .inr ⟨_, List.getElem_mem hi, mkB_bl h⟩
theorem mkI_hb (m : Mks) (k b : Nat) : ∀ j x q, blE (mkI m k b j x) q → blE x q := fun _ _ _ h => mkI_bl h
theorem mkB_hb (m : Mks) (k : Nat) : ∀ j x q, blF (mkB m k j x) q → blF x q := fun _ _ _ h => mkB_bl h
theorem mkC_hb (m : Mks) : ∀ j x q, blG (mkC m j x) q → blG x q := fun _ _ _ h => mkC_bl h
theorem mkC_id (m : Mks) (i : Nat) (cs : List TC) : flt enTC (mkU (mkC m) i cs) = flt enTC cs := by
  have : ∀ l : List TC, flt enTC l = flt enC (l.map Prod.fst) := fun l => by
    induction l with
    | nil => rfl
    | cons p r ih => simp only [flt, List.flatMap_cons, List.map_cons] at ih ⊢; rw [ih]; rfl
  rw [this, this]
  congr 1
  refine List.ext_getElem? (fun j => ?_)
  simp only [mkU, List.getElem?_map, List.getElem?_mapIdx]
  cases cs[j]? with
  | none => rfl
  | some c =>
    simp only [Option.map_some, Option.some.injEq]
    by_cases q : j < i
    · rw [if_pos q]; rfl
    · rw [if_neg q]
end
set_option maxRecDepth 100000 in
set_option maxHeartbeats 12800000 in
theorem apartLists_any {w : World} {lb lo lc : Nat} {cs : List TC} (hL : LOC w (.slice (some ⟨lb, lo, none⟩) cs.length lc) cs)
    (hG : ∀ (W : World) (m : Mks), LOC W (.slice (some ⟨lb, lo, none⟩) cs.length lc) (cs.mapIdx (mkC m)) → Calls Try.prog 50 #[.slice (some ⟨lb, lo, none⟩) cs.length lc] W fun e W' => e = .returned (.bool true) ∧ LOC W' (.slice (some ⟨lb, lo, none⟩) cs.length lc) (cs.mapIdx (mkC m)) ∧ Fr (fun q => ∃ y ∈ cs.mapIdx (mkC m), blG y q) W W') :
    Calls Try.prog 29 #[.slice (some ⟨lb, lo, none⟩) cs.length lc] w fun e w' => e = .returned (.bool true) ∧ Fr (fun q => lb = q ∨ ∃ x ∈ cs, blG x q) w w' := by
  obtain ⟨_, _, es, hl1, hl2⟩ := hL.row.shape
  cases es
  unfold maxLen at hl2
  obtain ⟨R, hR⟩ : ∃ R, Hid (cs.length = R) := ⟨_, hide rfl⟩
  obtain ⟨m, hm⟩ : ∃ m : Mks, Hid (m = ⟨fun b i s => IntKind.i64.wrap (IntKind.i64.wrap (IntKind.i64.wrap ((b : Int) * 1073741824) + IntKind.i64.wrap ((i : Int) * 16)) + (s : Int)), fun k b i => IntKind.i64.wrap (IntKind.i64.wrap (IntKind.i64.wrap ((k : Int) * 1099511627776) + IntKind.i64.wrap ((b : Int) * 1048576)) + (i : Int)), fun k b => IntKind.i64.wrap (IntKind.i64.wrap ((k : Int) * 1048576) + (b : Int))⟩) := ⟨_, hide rfl⟩
  have HAC := hide hL.ao
  have HEC := hide hL.el
  have HGR := hide hG
  have HS0 := hide (MP.start (P := CEo) (bl := blG) (mk := mkC m) hL.row)
  rw [unhide hR] at hl1 HAC HGR HS0 ⊢
  clear hL hG
  go_enter Try.func29, Try.ntmps29
  go_wp2_with fail
  go_loopg [3] R (fun g t3 wr => ∃ (k : Nat), Hid (k + g = R) ∧ t3 = .int .i64 (k : Int) ∧ Hid (MP enTC 3 CEo blG (mkC m) w (.slice (some ⟨lb, lo, none⟩) R lc) cs k k wr))
  case atStart => exact ⟨0, by unfold Hid; omega, rfl, HS0⟩
  case round =>
    clear HS0
    obtain ⟨k, hk, rfl, hM⟩ := hrel
    by_cases hlt : k < R
    · obtain ⟨c, hc⟩ : ∃ c, cs[k]? = some c := ⟨_, List.getElem?_eq_getElem (by rw [unhide hR]; exact hlt)⟩
      obtain ⟨g, off, cap, e, _, _, hg, hcl, hcf⟩ := (unhide hM).cells zTC (Nat.le_refl k) hc
      rw [unhide hR] at e
      cases e
      have hX := (unhide hM).keep stayCE (Nat.le_refl k) hc (unhide HEC k c hc)
      obtain ⟨⟨fn, regs, bv⟩, X⟩ := c
      obtain ⟨ba, bc, ebv, hb1, hb2⟩ := hX.row.shape
      dsimp only at ebv
      subst ebv
      unfold maxLen at hb2
      obtain ⟨NX, hNX⟩ : ∃ NX, Hid (X.length = NX) := ⟨_, hide rfl⟩
      have hne : ∀ q, blG ((⟨fn, regs, .slice ba X.length bc⟩ : CdR), X) q → q ≠ lb := fun q hq e2 => ((unhide HAC).eb k _ q hc hq).2 (by rw [e2]; rfl)
      obtain ⟨Wc, rfl⟩ : ∃ Wc, Wc = wr := ⟨_, rfl⟩
      have HCF : Hid (∀ V : World, Fr (fun q => blG ((⟨fn, regs, .slice ba X.length bc⟩ : CdR), X) q) Wc V → V.cell? ⟨lb, lo + k * 3 + 2, none⟩ = some (.slice ba X.length bc) ∧ lb < V.heap.size) := fun V f =>
        ⟨(f.cell (a := ⟨lb, lo + k * 3 + 2, none⟩) hg (fun e2 => hne _ e2 rfl)).trans (hcl 2 _ rfl), Nat.lt_of_lt_of_le hg f.size⟩
      have c2 : Wc.cell? ⟨lb, lo + k * 3 + 2, none⟩ = some (.slice ba X.length bc) := hcl 2 _ rfl
      have HC1 := hide hc
      have HAB := hide hX.ao
      have HEB := hide hX.el
      have HSB := hide (MP.start (P := BEo) (bl := blF) (mk := mkB m k) hX.row)
      dsimp only at HAB HSB
      rw [unhide hNX] at hb1 HCF c2 HC1 HAB HSB
      have i0 : (0 : Int) ≤ (k : Int) := by omega
      have i1 : (k : Int) < (R : Int) := by omega
      obtain ⟨G0, hG0⟩ : ∃ G0 : Nat, Hid (G0 = gk) := ⟨_, rfl⟩
      clear hcl hcf hX hne hc
      go_wp2_with fail
      clear c2
      go_loopg [4] NX (fun g t4 wr => ∃ (b : Nat), Hid (b + g = NX) ∧ t4 = .int .i64 (b : Int) ∧ Hid (MP enTB 3 BEo blF (mkB m k) Wc (.slice ba NX bc) X b b wr))
      case atStart => exact ⟨0, by unfold Hid; omega, rfl, HSB⟩
      case round =>
        clear HSB
        obtain ⟨b, hb, rfl, hB⟩ := hrel
        obtain ⟨c2, hlb⟩ := unhide HCF _ (by have q := (unhide hB).fr; exact q)
        by_cases hlt2 : b < NX
        · obtain ⟨x, hx⟩ : ∃ x, X[b]? = some x := ⟨_, List.getElem?_eq_getElem (by rw [unhide hNX]; exact hlt2)⟩
          obtain ⟨gb, ob, cb, e, _, _, hgb, hbl, hbf⟩ := (unhide hB).cells zTB (Nat.le_refl b) hx
          rw [unhide hNX] at e
          cases e
          have hT := (unhide hB).keep stayBE (Nat.le_refl b) hx (unhide HEB b x hx)
          obtain ⟨⟨pc, iv, nv⟩, ts⟩ := x
          obtain ⟨ia, ic, eiv, hi1, hi2⟩ := hT.row.shape
          dsimp only at eiv
          subst eiv
          unfold maxLen at hi2
          obtain ⟨NT, hNT⟩ : ∃ NT, Hid (ts.length = NT) := ⟨_, hide rfl⟩
          have hne : ∀ q, blF ((⟨pc, .slice ia ts.length ic, nv⟩ : BkR), ts) q → q ≠ gb := fun q hq e2 => ((unhide HAB).eb b _ q hx hq).2 (by rw [e2]; rfl)
          obtain ⟨Wb, rfl⟩ : ∃ Wb, Wb = wr := ⟨_, rfl⟩
          have hBfr := (unhide hB).fr
          have HBF : Hid (∀ V : World, Fr (fun q => blF ((⟨pc, .slice ia ts.length ic, nv⟩ : BkR), ts) q) Wb V → (V.cell? ⟨lb, lo + k * 3 + 2, none⟩ = some (.slice (some ⟨gb, ob, none⟩) NX bc) ∧ lb < V.heap.size) ∧ (∀ c u, (enTB ((⟨pc, .slice ia ts.length ic, nv⟩ : BkR), ts))[c]? = some u → V.cell? ⟨gb, ob + b * 3 + c, none⟩ = some u) ∧ (∀ c, V.frozen? ⟨gb, c, none⟩ = false) ∧ gb < V.heap.size) := fun V f =>
            ⟨unhide HCF V (hBfr.trans (f.mono (fun q _ e2 => .inr ⟨_, List.mem_of_getElem? hx, e2⟩))), fun c u hu => (f.cell (a := ⟨gb, ob + b * 3 + c, none⟩) hgb (fun e2 => hne _ e2 rfl)).trans (hbl c u hu), fun c => (f.frozen (a := ⟨gb, c, none⟩) hgb (fun e2 => hne _ e2 rfl)).trans (hbf c), Nat.lt_of_lt_of_le hgb f.size⟩
          have b1 : Wb.cell? ⟨gb, ob + b * 3 + 1, none⟩ = some (.slice ia ts.length ic) := hbl 1 _ rfl
          have HX1 := hide hx
          have HAI := hide hT.ao
          have HEI := hide hT.el
          have HSI := hide (MP.start (P := IEo) (bl := blE) (mk := mkI m k b) hT.row)
          dsimp only at HAI HSI
          rw [unhide hNT] at hi1 HBF b1 HX1 HAI HSI
          have j0 : (0 : Int) ≤ (b : Int) := by omega
          have j1 : (b : Int) < (NX : Int) := by omega
          obtain ⟨G2, hG2⟩ : ∃ G2 : Nat, Hid (G2 = gk) := ⟨_, rfl⟩
          clear hbl hbf hT hne hx hBfr
          go_wp2_with fail
          clear b1 c2
          go_loopg [5] NT (fun g t5 wr => ∃ (i : Nat), Hid (i + g = NT) ∧ t5 = .int .i64 (i : Int) ∧ Hid (MP enT 8 IEo blE (mkI m k b) Wb (.slice ia NT ic) ts i i wr))
          case atStart => exact ⟨0, by unfold Hid; omega, rfl, HSI⟩
          case round =>
            clear HSI
            obtain ⟨i, hi, rfl, hI⟩ := hrel
            obtain ⟨⟨c2, hlb⟩, hbl, hbf, hgb'⟩ := unhide HBF _ (by have q := (unhide hI).fr; exact q)
            have b1 : wr.cell? ⟨gb, ob + b * 3 + 1, none⟩ = some (.slice ia NT ic) := hbl 1 _ rfl
            by_cases hlt3 : i < NT
            · obtain ⟨t, ht⟩ : ∃ t, ts[i]? = some t := ⟨_, List.getElem?_eq_getElem (by rw [unhide hNT]; exact hlt3)⟩
              obtain ⟨g8, o8, c8, e, _, _, hg8, hc8, hf8⟩ := (unhide hI).cells zT (Nat.le_refl i) ht
              rw [unhide hNT] at e
              cases e
              have hE := (unhide hI).keep stayIE (Nat.le_refl i) ht (unhide HEI i t ht)
              obtain ⟨⟨rop, rcode, rdst, av, rn, rpc, rneed, ev⟩, rs⟩ := t
              obtain ⟨ea, ec, eev, he1, he2⟩ := hE.row.shape
              dsimp only at eev
              subst eev
              unfold maxLen at he2
              obtain ⟨NE, hNE⟩ : ∃ NE, Hid (rs.length = NE) := ⟨_, hide rfl⟩
              have hne : ∀ q, blE ((⟨rop, rcode, rdst, av, rn, rpc, rneed, .slice ea rs.length ec⟩ : InR), rs) q → q ≠ g8 := fun q hq e2 => ((unhide HAI).eb i _ q ht hq).2 (by rw [e2]; rfl)
              obtain ⟨Wi, rfl⟩ : ∃ Wi, Wi = wr := ⟨_, rfl⟩
              have hIfr := (unhide hI).fr
              have HIF : Hid (∀ V : World, Fr (fun q => blE ((⟨rop, rcode, rdst, av, rn, rpc, rneed, .slice ea rs.length ec⟩ : InR), rs) q) Wi V → (V.cell? ⟨lb, lo + k * 3 + 2, none⟩ = some (.slice (some ⟨gb, ob, none⟩) NX bc) ∧ lb < V.heap.size) ∧ (V.cell? ⟨gb, ob + b * 3 + 1, none⟩ = some (.slice (some ⟨g8, o8, none⟩) NT ic) ∧ gb < V.heap.size) ∧ (∀ c u, (enT ((⟨rop, rcode, rdst, av, rn, rpc, rneed, .slice ea rs.length ec⟩ : InR), rs))[c]? = some u → V.cell? ⟨g8, o8 + i * 8 + c, none⟩ = some u) ∧ (∀ c, V.frozen? ⟨g8, c, none⟩ = false) ∧ g8 < V.heap.size) := fun V f => by
                obtain ⟨q1, q2, q3, q4⟩ := unhide HBF V (hIfr.trans (f.mono (fun q _ e2 => .inr ⟨_, List.mem_of_getElem? ht, e2⟩)))
                exact ⟨q1, ⟨q2 1 _ rfl, q4⟩, fun c u hu => (f.cell (a := ⟨g8, o8 + i * 8 + c, none⟩) hg8 (fun e2 => hne _ e2 rfl)).trans (hc8 c u hu), fun c => (f.frozen (a := ⟨g8, c, none⟩) hg8 (fun e2 => hne _ e2 rfl)).trans (hf8 c), Nat.lt_of_lt_of_le hg8 f.size⟩
              have k7 : Wi.cell? ⟨g8, o8 + i * 8 + 7, none⟩ = some (.slice ea rs.length ec) := hc8 7 _ rfl
              have HES := hide hE.el
              have HT1 := hide ht
              have HYtiamoinhmkhaoaa := hide (MP.start (P := slS) (bl := no) (mk := mkS m k b i) hE.row)
              dsimp only at HYtiamoinhmkhaoaa
              rw [unhide hNE] at he1 HIF k7 HT1 HYtiamoinhmkhaoaa
              have l0 : (0 : Int) ≤ (i : Int) := by omega
              have l1 : (i : Int) < (NT : Int) := by omega
              obtain ⟨G3, hG3⟩ : ∃ G3 : Nat, Hid (G3 = gk) := ⟨_, rfl⟩
              clear hc8 hf8 hE hne ht hIfr hbl hbf
              go_wp2_with fail
              clear k7 c2 b1
              go_loopg [6] NE (fun g t6 wr => ∃ (s : Nat), Hid (s + g = NE) ∧ t6 = .int .i64 (s : Int) ∧ Hid (MP enSh 3 slS no (mkS m k b i) Wi (.slice ea NE ec) rs s s wr))
              case atStart => exact ⟨0, by unfold Hid; omega, rfl, HYtiamoinhmkhaoaa⟩
              case round =>
                clear HYtiamoinhmkhaoaa
                obtain ⟨s, hs, rfl, hS⟩ := hrel
                have hSf : Fr (fun q => blE ((⟨rop, rcode, rdst, av, rn, rpc, rneed, .slice ea NE ec⟩ : InR), rs) q) Wi wr := (unhide hS).fr.mono (fun q _ e2 => e2.elim id (fun ⟨_, _, e3⟩ => e3.elim))
                have HSF := hide hSf
                obtain ⟨⟨c2, hlb⟩, ⟨b1, hgb'⟩, hc8, hf8, hg8'⟩ := unhide HIF _ hSf
                have k7 : wr.cell? ⟨g8, o8 + i * 8 + 7, none⟩ = some (.slice ea NE ec) := hc8 7 _ rfl
                by_cases hlt4 : s < NE
                · obtain ⟨r, hr⟩ : ∃ r, rs[s]? = some r := ⟨_, List.getElem?_eq_getElem (by rw [unhide hNE]; exact hlt4)⟩
                  obtain ⟨ge, oe, ce, e, _, _, hge, hce, hfe⟩ := (unhide hS).cells zSh (Nat.le_refl s) hr
                  rw [unhide hNE] at e
                  cases e
                  obtain ⟨rf, rp, rv⟩ := r
                  have e0 : wr.cell? ⟨ge, oe + s * 3, none⟩ = some (.int .i64 rf) := hce 0 _ rfl
                  have f0 := hfe (oe + s * 3)
                  obtain ⟨Y, hY⟩ : ∃ Y, Hid (wr.setCell ⟨ge, oe + s * 3, none⟩ (.int .i64 (k : Int)) = Y) := ⟨_, hide rfl⟩
                  have fY : Fr (fun q => q = ge) wr Y := by rw [← unhide hY]; exact (Fr.refl (fun q => q = ge) wr).setCell ⟨ge, oe + s * 3, none⟩ (.inr rfl) _
                  obtain ⟨⟨c2y, hlby⟩, ⟨b1y, hgby⟩, hc8y, _, hg8y⟩ := unhide HIF Y (hSf.trans (fY.mono (fun q _ e2 => by have e3 : q = ge := e2; subst e3; exact rfl)))
                  have k7y : Y.cell? ⟨g8, o8 + i * 8 + 7, none⟩ = some (.slice (some ⟨ge, oe, none⟩) NE ec) := hc8y 7 _ rfl
                  have hRow := (unhide hS).row
                  have hMs := mkU_at (mkS m k b i) s hr
                  rw [if_neg (Nat.lt_irrefl s)] at hMs
                  rw [unhide hNE] at hRow
                  obtain ⟨r1, t1⟩ := hRow.put1 zSh rfl (c := 0) (x' := ⟨(k : Int), rp, rv⟩) (u := .int .i64 (k : Int)) hMs (by omega) rfl
                  rw [Nat.add_zero, unhide hY] at r1
                  have hMs1 : ((mkU (mkS m k b i) s rs).set s ⟨(k : Int), rp, rv⟩)[s]? = some ⟨(k : Int), rp, rv⟩ := List.getElem?_set_self (by rw [mkU_length, unhide hNE]; exact hlt4)
                  obtain ⟨r2, t2⟩ := r1.put1 zSh rfl (c := 1) (x' := mkS m k b i s ⟨rf, rp, rv⟩) (u := .int .i64 (m.p b i s)) hMs1 (by omega) rfl
                  rw [List.set_set, mkU_set (mkS m k b i) hr] at r2
                  have e1y : Y.cell? ⟨ge, oe + s * 3 + 1, none⟩ = some (.int .i64 rp) := r1.cellc zSh (by rw [List.length_set, mkU_length, unhide hNE]) hMs1 rfl
                  have f1y : Y.frozen? ⟨ge, oe + s * 3 + 1, none⟩ = false := r1.free rfl _
                  have hgy : ge < Y.heap.size := Nat.lt_of_lt_of_le hge fY.size
                  have hY' := unhide hY
                  obtain ⟨A1, hA1⟩ : ∃ A1, Hid (IntKind.i64.wrap ((b : Int) * 1073741824) = A1) := ⟨_, hide rfl⟩
                  obtain ⟨A2, hA2⟩ : ∃ A2, Hid (IntKind.i64.wrap ((i : Int) * 16) = A2) := ⟨_, hide rfl⟩
                  obtain ⟨A3, hA3⟩ : ∃ A3, Hid (IntKind.i64.wrap (A1 + A2) = A3) := ⟨_, hide rfl⟩
                  obtain ⟨A4, hA4⟩ : ∃ A4, Hid (IntKind.i64.wrap (A3 + (s : Int)) = A4) := ⟨_, hide rfl⟩
                  have hA5 : m.p b i s = A4 := by rw [unhide hm, ← unhide hA4, ← unhide hA3, ← unhide hA2, ← unhide hA1]
                  have ew1 := unhide hA1
                  have ew2 := unhide hA2
                  have ew3 := unhide hA3
                  have ew4 := unhide hA4
                  have HP : Hid (MP enSh 3 slS no (mkS m k b i) Wi (.slice (some ⟨ge, oe, none⟩) NE ec) rs (s + 1) (s + 1) (Y.setCell ⟨ge, oe + s * 3 + 1, none⟩ (.int .i64 A4))) := by
                    have q0 : MP enSh 3 slS no (mkS m k b i) Wi (.slice (some ⟨ge, oe, none⟩) NE ec) rs s (s + 1) wr := (unhide hS).inner stay_slS (fun _ _ _ h => h.elim) (AO.none _ _ _) hr (S := fun _ => False) (Fr.refl _ wr) (fun _ _ e2 => e2.elim)
                    refine q0.done stay_slS (fun _ _ _ h => h.elim) (AO.none _ _ _) hr ?_ ?_ (by have q5 := unhide HES s _ hr; exact q5)
                    · rw [← hA5]
                      exact (fY.trans t2).mono (fun q _ e2 => by have e3 : q = ge := e2; rw [e3]; rfl)
                    · rw [← hA5, unhide hNE]
                      exact r2
                  have l3 : (0 : Int) ≤ (s : Int) := by omega
                  have l4 : (s : Int) < (NE : Int) := by omega
                  clear hce hfe hc8 hf8 hc8y fY hRow hMs r1 t1 hMs1 r2 t2 hA5 hSf HSF hr hY
                  go_wp2_with fail
                  go_roundg (gk - 1)
                  case measure => have := unhide hs; omega
                  case rel => exact ⟨s + 1, by have := unhide hs; unfold Hid; omega, by go_num, HP⟩
                · have hsN : s = NE := by have := unhide hs; omega
                  subst hsN
                  have hful := (unhide hS).full (fun _ _ _ h => h.elim) (AO.none _ _ _) (unhide hNE).symm
                  have q1 := (unhide hI).inner stayIE (mkI_hb m k b) (unhide HAI) (unhide HT1) hSf (fun _ _ e2 => e2)
                  have k6 : wr.cell? ⟨g8, o8 + i * 8 + 6, none⟩ = some (.int .i64 rneed) := hc8 6 _ rfl
                  have f6 := hf8 (o8 + i * 8 + 6)
                  have hRow := q1.row
                  have hMt := mkU_at (mkI m k b) i (unhide HT1)
                  rw [if_neg (Nat.lt_irrefl i)] at hMt
                  rw [unhide hNT] at hRow
                  obtain ⟨r1, t1⟩ := hRow.put1 zT rfl (c := 6) (x' := mkI m k b i ((⟨rop, rcode, rdst, av, rn, rpc, rneed, .slice ea s ec⟩ : InR), rs)) (u := .int .i64 (m.n k b i)) hMt (by omega) rfl
                  rw [mkU_set (mkI m k b) (unhide HT1)] at r1
                  obtain ⟨A1, hA1⟩ : ∃ A1, Hid (IntKind.i64.wrap ((k : Int) * 1099511627776) = A1) := ⟨_, hide rfl⟩
                  obtain ⟨A2, hA2⟩ : ∃ A2, Hid (IntKind.i64.wrap ((b : Int) * 1048576) = A2) := ⟨_, hide rfl⟩
                  obtain ⟨A3, hA3⟩ : ∃ A3, Hid (IntKind.i64.wrap (A1 + A2) = A3) := ⟨_, hide rfl⟩
                  obtain ⟨A4, hA4⟩ : ∃ A4, Hid (IntKind.i64.wrap (A3 + (i : Int)) = A4) := ⟨_, hide rfl⟩
                  have hA5 : m.n k b i = A4 := by rw [unhide hm, ← unhide hA4, ← unhide hA3, ← unhide hA2, ← unhide hA1]
                  have ew1 := unhide hA1
                  have ew2 := unhide hA2
                  have ew3 := unhide hA3
                  have ew4 := unhide hA4
                  have HP : Hid (MP enT 8 IEo blE (mkI m k b) Wb (.slice (some ⟨g8, o8, none⟩) NT ic) ts (i + 1) (i + 1) (wr.setCell ⟨g8, o8 + i * 8 + 6, none⟩ (.int .i64 A4))) := by
                    rw [hA5] at r1 t1
                    refine q1.done stayIE (mkI_hb m k b) (unhide HAI) (unhide HT1) (t1.mono (fun q _ e2 => by have e3 : q = g8 := e2; rw [e3]; rfl)) (by rw [unhide hNT]; exact r1) ?_
                    refine LO.fr stay_slS hful t1 (fun q hq e2 => ?_)
                    have e3 : q = g8 := e2
                    rcases hq with hq | ⟨_, _, hq⟩
                    · exact ((unhide HAI).eb i _ q (unhide HT1) hq).2 (by rw [e3]; rfl)
                    · exact hq.elim
                  clear hful q1 hRow hMt r1 t1 hA5 hc8 hf8 hSf HSF
                  go_wp2_with fail
                  go_roundg (G3 - 1)
                  case measure => have h1 := unhide hG3; have h2 := unhide hi; omega
                  case rel => exact ⟨i + 1, by have h1 := unhide hG3; have h2 := unhide hi; unfold Hid; omega, by go_num, HP⟩
            · have hiN : i = NT := by have := unhide hi; omega
              subst hiN
              have hIf : Fr (fun q => blF ((⟨pc, .slice ia i ic, nv⟩ : BkR), ts) q) Wb wr := by have q := (unhide hI).fr; exact q
              have hful := (unhide hI).full (mkI_hb m k b) (unhide HAI) (unhide hNT).symm
              have q1 := (unhide hB).inner stayBE (mkB_hb m k) (unhide HAB) (unhide HX1) hIf (fun _ _ e2 => e2)
              have b0 : wr.cell? ⟨gb, ob + b * 3, none⟩ = some (.int .i64 pc) := hbl 0 _ rfl
              have f0 := hbf (ob + b * 3)
              have hRow := q1.row
              have hMt := mkU_at (mkB m k) b (unhide HX1)
              rw [if_neg (Nat.lt_irrefl b)] at hMt
              rw [unhide hNX] at hRow
              obtain ⟨r1, t1⟩ := hRow.put1 zTB rfl (c := 0) (x' := mkB m k b ((⟨pc, .slice ia i ic, nv⟩ : BkR), ts)) (u := .int .i64 (m.c k b)) hMt (by omega) rfl
              rw [mkU_set (mkB m k) (unhide HX1), Nat.add_zero] at r1
              rw [Nat.add_zero] at t1
              obtain ⟨A1, hA1⟩ : ∃ A1, Hid (IntKind.i64.wrap ((k : Int) * 1048576) = A1) := ⟨_, hide rfl⟩
              obtain ⟨A2, hA2⟩ : ∃ A2, Hid (IntKind.i64.wrap (A1 + (b : Int)) = A2) := ⟨_, hide rfl⟩
              have hA5 : m.c k b = A2 := by rw [unhide hm, ← unhide hA2, ← unhide hA1]
              have ew1 := unhide hA1
              have ew2 := unhide hA2
              have HP : Hid (MP enTB 3 BEo blF (mkB m k) Wc (.slice (some ⟨gb, ob, none⟩) NX bc) X (b + 1) (b + 1) (wr.setCell ⟨gb, ob + b * 3, none⟩ (.int .i64 A2))) := by
                rw [hA5] at r1 t1
                refine q1.done stayBE (mkB_hb m k) (unhide HAB) (unhide HX1) (t1.mono (fun q _ e2 => by have e3 : q = gb := e2; rw [e3]; rfl)) (by rw [unhide hNX]; exact r1) ?_
                refine LO.fr stayIE hful t1 (fun q hq e2 => ?_)
                have e3 : q = gb := e2
                refine ((unhide HAB).eb b _ q (unhide HX1) ?_).2 (by rw [e3]; rfl)
                exact mkB_bl (m := m) (k := k) (j := b) hq
              clear hful q1 hRow hMt r1 t1 hA5 hIf hbl hbf
              go_wp2_with fail
              go_roundg (G2 - 1)
              case measure => have h1 := unhide hG2; have h2 := unhide hb; omega
              case rel => exact ⟨b + 1, by have h1 := unhide hG2; have h2 := unhide hb; unfold Hid; omega, by go_num, HP⟩
        · have hbN : b = NX := by have := unhide hb; omega
          subst hbN
          have hBf : Fr (fun q => blG ((⟨fn, regs, .slice ba b bc⟩ : CdR), X) q) Wc wr := by have q := (unhide hB).fr; exact q
          have hful := (unhide hB).full (mkB_hb m k) (unhide HAB) (unhide hNX).symm
          have q1 := (unhide hM).inner stayCE (mkC_hb m) (unhide HAC) (unhide HC1) hBf (fun _ _ e2 => e2)
          have HP : Hid (MP enTC 3 CEo blG (mkC m) w (.slice (some ⟨lb, lo, none⟩) R lc) cs (k + 1) (k + 1) wr) := by
            refine q1.done stayCE (mkC_hb m) (unhide HAC) (unhide HC1) (Fr.refl _ wr) ?_ hful
            have q2 := q1.row
            rw [mkC_id] at q2 ⊢
            exact q2
          clear hful q1 hBf
          go_wp2_with fail
          go_roundg (G0 - 1)
          case measure => have h1 := unhide hG0; have h2 := unhide hk; omega
          case rel => exact ⟨k + 1, by have h1 := unhide hG0; have h2 := unhide hk; unfold Hid; omega, by go_num, HP⟩
    · have hkR : k = R := by have := unhide hk; omega
      subst hkR
      have hful : LOC wr (.slice (some ⟨lb, lo, none⟩) k lc) (cs.mapIdx (mkC m)) := (unhide hM).full (mkC_hb m) (unhide HAC) (unhide hR).symm
      have hmem : ∀ q, (∃ y ∈ cs.mapIdx (mkC m), blG y q) → ∃ x ∈ cs, blG x q := fun q ⟨y, hy, hq⟩ => by
        obtain ⟨i, hi, rfl⟩ := List.mem_mapIdx.1 hy
        exact ⟨_, List.getElem_mem hi, mkC_bl hq⟩
      have HCALL := hide (unhide HGR wr m hful)
      have HF1 := hide (unhide hM).fr
      have HMEM := hide hmem
      clear hful hmem hM hk HGR HAC HEC
      go_wp2_with fail
      refine (unhide HCALL).mono ?_
      rintro e V ⟨rfl, hV, hVf⟩
      have HV := hide hV
      have HF2 := hide hVf
      clear HCALL hV hVf
      have hz0 := hide (Below.refl V.heap.size V)
      go_wp2_with fail
      go_loopg [7] k (fun g t7 wr => ∃ (a : Nat), Hid (a + g = k) ∧ t7 = .int .i64 (a : Int) ∧ Hid (Below V.heap.size V wr))
      case atStart => exact ⟨0, by unfold Hid; omega, rfl, hz0⟩
      case round =>
        clear hz0
        obtain ⟨a, ha, rfl, hW⟩ := hrel
        by_cases hlt : a < k
        · obtain ⟨c, hc⟩ : ∃ c, cs[a]? = some c := ⟨_, List.getElem?_eq_getElem (by rw [unhide hR]; exact hlt)⟩
          have hc' : (cs.mapIdx (mkC m))[a]? = some (mkC m a c) := by rw [List.getElem?_mapIdx, hc]; rfl
          obtain ⟨g, off, cap, e, _, _, hg, hcl, _⟩ := (unhide HV).cells zTC hc'
          rw [List.length_mapIdx, unhide hR] at e
          cases e
          have hX := (unhide HV).el a _ hc'
          obtain ⟨⟨fn, regs, bv⟩, X⟩ := c
          obtain ⟨ba, bc, ebv, hb1, hb2⟩ := hX.row.shape
          have ebv' : bv = .slice ba (X.mapIdx (mkB m a)).length bc := ebv
          rw [List.length_mapIdx] at ebv'
          subst ebv'
          have hb1' : X.length ≤ bc := by have q : (X.mapIdx (mkB m a)).length ≤ bc := hb1; rwa [List.length_mapIdx] at q
          unfold maxLen at hb2
          obtain ⟨NX, hNX⟩ : ∃ NX, Hid (X.length = NX) := ⟨_, hide rfl⟩
          have c2v : V.cell? ⟨lb, lo + a * 3 + 2, none⟩ = some (.slice ba X.length bc) := hcl 2 _ rfl
          have HX0 := hide hX
          have c2 := ((unhide hW).cell (p := ⟨lb, lo + a * 3 + 2, none⟩) hg).trans c2v
          have hlb := Nat.lt_of_lt_of_le hg (unhide hW).size
          rw [unhide hNX] at hb1' c2v c2
          have HC2 := hide c2v
          have HLB := hide hg
          have i0 : (0 : Int) ≤ (a : Int) := by omega
          have i1 : (a : Int) < (k : Int) := by omega
          obtain ⟨G0, hG0⟩ : ∃ G0 : Nat, Hid (G0 = gk) := ⟨_, rfl⟩
          clear hcl hX hc' c2v hb1 ebv hg
          go_wp2_with fail
          clear c2 hlb
          go_loopg [8] NX (fun g t8 wr => ∃ (b : Nat), Hid (b + g = NX) ∧ t8 = .int .i64 (b : Int) ∧ Hid (Below V.heap.size V wr))
          case atStart => exact ⟨0, by unfold Hid; omega, rfl, hW⟩
          case round =>
            clear hW
            obtain ⟨b, hb, rfl, hW⟩ := hrel
            have c2 := ((unhide hW).cell (p := ⟨lb, lo + a * 3 + 2, none⟩) (unhide HLB)).trans (unhide HC2)
            have hlb := Nat.lt_of_lt_of_le (unhide HLB) (unhide hW).size
            by_cases hlt2 : b < NX
            · obtain ⟨x, hx⟩ : ∃ x, X[b]? = some x := ⟨_, List.getElem?_eq_getElem (by rw [unhide hNX]; exact hlt2)⟩
              have hx' : (X.mapIdx (mkB m a))[b]? = some (mkB m a b x) := by rw [List.getElem?_mapIdx, hx]; rfl
              obtain ⟨gb, ob, cb, e, _, _, hgb, hbl, _⟩ := LO.cells zTB (unhide HX0) hx'
              have e' : Value.slice ba NX bc = .slice (some ⟨gb, ob, none⟩) (X.mapIdx (mkB m a)).length cb := by rw [← unhide hNX]; exact e
              rw [List.length_mapIdx, unhide hNX] at e'
              cases e'
              have hT : BEo V (mkB m a b x) := LO.el (unhide HX0) b _ hx'
              obtain ⟨⟨pc, iv, nv⟩, ts⟩ := x
              obtain ⟨ia, ic, eiv, hi1, hi2⟩ := hT.row.shape
              have eiv' : iv = .slice ia (ts.mapIdx (mkI m a b)).length ic := eiv
              rw [List.length_mapIdx] at eiv'
              subst eiv'
              have hi1' : ts.length ≤ ic := by have q : (ts.mapIdx (mkI m a b)).length ≤ ic := hi1; rwa [List.length_mapIdx] at q
              unfold maxLen at hi2
              obtain ⟨NT, hNT⟩ : ∃ NT, Hid (ts.length = NT) := ⟨_, hide rfl⟩
              have b0v : V.cell? ⟨gb, ob + b * 3, none⟩ = some (.int .i64 (m.c a b)) := hbl 0 _ rfl
              have b1v : V.cell? ⟨gb, ob + b * 3 + 1, none⟩ = some (.slice ia ts.length ic) := hbl 1 _ rfl
              have HT0 := hide hT
              have b1 := ((unhide hW).cell (p := ⟨gb, ob + b * 3 + 1, none⟩) hgb).trans b1v
              have hgb' := Nat.lt_of_lt_of_le hgb (unhide hW).size
              rw [unhide hNT] at hi1' b1v b1
              have HB0 := hide b0v
              have HB1 := hide b1v
              have HGB := hide hgb
              have j0 : (0 : Int) ≤ (b : Int) := by omega
              have j1 : (b : Int) < (NX : Int) := by omega
              obtain ⟨G2, hG2⟩ : ∃ G2 : Nat, Hid (G2 = gk) := ⟨_, rfl⟩
              clear hbl hT hx' b0v b1v hi1 eiv hgb e
              go_wp2_with fail
              clear c2 hlb b1 hgb'
              go_loopg [9] NT (fun g t9 wr => ∃ (i : Nat), Hid (i + g = NT) ∧ t9 = .int .i64 (i : Int) ∧ Hid (Below V.heap.size V wr))
              case atStart => exact ⟨0, by unfold Hid; omega, rfl, hW⟩
              case round =>
                clear hW
                obtain ⟨i, hi, rfl, hW⟩ := hrel
                have c2 := ((unhide hW).cell (p := ⟨lb, lo + a * 3 + 2, none⟩) (unhide HLB)).trans (unhide HC2)
                have hlb := Nat.lt_of_lt_of_le (unhide HLB) (unhide hW).size
                have b1 := ((unhide hW).cell (p := ⟨gb, ob + b * 3 + 1, none⟩) (unhide HGB)).trans (unhide HB1)
                have hgb' := Nat.lt_of_lt_of_le (unhide HGB) (unhide hW).size
                by_cases hlt3 : i < NT
                · obtain ⟨t, ht⟩ : ∃ t, ts[i]? = some t := ⟨_, List.getElem?_eq_getElem (by rw [unhide hNT]; exact hlt3)⟩
                  have ht' : (ts.mapIdx (mkI m a b))[i]? = some (mkI m a b i t) := by rw [List.getElem?_mapIdx, ht]; rfl
                  obtain ⟨g8, o8, c8, e, _, _, hg8, hc8, _⟩ := LO.cells zT (unhide HT0) ht'
                  have e' : Value.slice ia NT ic = .slice (some ⟨g8, o8, none⟩) (ts.mapIdx (mkI m a b)).length c8 := by rw [← unhide hNT]; exact e
                  rw [List.length_mapIdx, unhide hNT] at e'
                  cases e'
                  have hE : IEo V (mkI m a b i t) := LO.el (unhide HT0) i _ ht'
                  obtain ⟨⟨rop, rcode, rdst, av, rn, rpc, rneed, ev⟩, rs⟩ := t
                  obtain ⟨ea, ec, eev, he1, he2⟩ := hE.row.shape
                  have eev' : ev = .slice ea (rs.mapIdx (mkS m a b i)).length ec := eev
                  rw [List.length_mapIdx] at eev'
                  subst eev'
                  have he1' : rs.length ≤ ec := by have q : (rs.mapIdx (mkS m a b i)).length ≤ ec := he1; rwa [List.length_mapIdx] at q
                  unfold maxLen at he2
                  obtain ⟨NE, hNE⟩ : ∃ NE, Hid (rs.length = NE) := ⟨_, hide rfl⟩
                  have k6v : V.cell? ⟨g8, o8 + i * 8 + 6, none⟩ = some (.int .i64 (m.n a b i)) := hc8 6 _ rfl
                  have k7v : V.cell? ⟨g8, o8 + i * 8 + 7, none⟩ = some (.slice ea rs.length ec) := hc8 7 _ rfl
                  have HE0 := hide hE
                  have k7 := ((unhide hW).cell (p := ⟨g8, o8 + i * 8 + 7, none⟩) hg8).trans k7v
                  have hg8' := Nat.lt_of_lt_of_le hg8 (unhide hW).size
                  rw [unhide hNE] at he1' k7v k7
                  have HK6 := hide k6v
                  have HK7 := hide k7v
                  have HG8 := hide hg8
                  have l0 : (0 : Int) ≤ (i : Int) := by omega
                  have l1 : (i : Int) < (NT : Int) := by omega
                  obtain ⟨G3, hG3⟩ : ∃ G3 : Nat, Hid (G3 = gk) := ⟨_, rfl⟩
                  clear hc8 hE ht' k6v k7v he1 eev hg8 e
                  go_wp2_with fail
                  clear c2 hlb b1 hgb' k7 hg8'
                  go_loopg [10] NE (fun g t10 wr => ∃ (s : Nat), Hid (s + g = NE) ∧ t10 = .int .i64 (s : Int) ∧ Hid (Below V.heap.size V wr))
                  case atStart => exact ⟨0, by unfold Hid; omega, rfl, hW⟩
                  case round =>
                    clear hW
                    obtain ⟨s, hs, rfl, hW⟩ := hrel
                    have c2 := ((unhide hW).cell (p := ⟨lb, lo + a * 3 + 2, none⟩) (unhide HLB)).trans (unhide HC2)
                    have hlb := Nat.lt_of_lt_of_le (unhide HLB) (unhide hW).size
                    have b1 := ((unhide hW).cell (p := ⟨gb, ob + b * 3 + 1, none⟩) (unhide HGB)).trans (unhide HB1)
                    have hgb' := Nat.lt_of_lt_of_le (unhide HGB) (unhide hW).size
                    have k7 := ((unhide hW).cell (p := ⟨g8, o8 + i * 8 + 7, none⟩) (unhide HG8)).trans (unhide HK7)
                    have hg8' := Nat.lt_of_lt_of_le (unhide HG8) (unhide hW).size
                    by_cases hlt4 : s < NE
                    · obtain ⟨r, hr⟩ : ∃ r, rs[s]? = some r := ⟨_, List.getElem?_eq_getElem (by rw [unhide hNE]; exact hlt4)⟩
                      have hr' : (rs.mapIdx (mkS m a b i))[s]? = some (mkS m a b i s r) := by rw [List.getElem?_mapIdx, hr]; rfl
                      obtain ⟨ge, oe, ce, e, _, _, hge, hce, _⟩ := LO.cells zSh (unhide HE0) hr'
                      have e' : Value.slice ea NE ec = .slice (some ⟨ge, oe, none⟩) (rs.mapIdx (mkS m a b i)).length ce := by rw [← unhide hNE]; exact e
                      rw [List.length_mapIdx, unhide hNE] at e'
                      cases e'
                      obtain ⟨ra, rn', rc, erv⟩ := LO.el (unhide HE0) s _ hr'
                      obtain ⟨rf, rp, rv⟩ := r
                      have erv' : rv = .slice ra rn' rc := erv
                      subst erv'
                      have e0 := ((unhide hW).cell (p := ⟨ge, oe + s * 3, none⟩) hge).trans (hce 0 _ rfl)
                      have e1 := ((unhide hW).cell (p := ⟨ge, oe + s * 3 + 1, none⟩) hge).trans (hce 1 _ rfl)
                      have e2 := ((unhide hW).cell (p := ⟨ge, oe + s * 3 + 2, none⟩) hge).trans (hce 2 _ rfl)
                      have hge' := Nat.lt_of_lt_of_le hge (unhide hW).size
                      obtain ⟨A1, hA1⟩ : ∃ A1, Hid (IntKind.i64.wrap ((b : Int) * 1073741824) = A1) := ⟨_, hide rfl⟩
                      obtain ⟨A2, hA2⟩ : ∃ A2, Hid (IntKind.i64.wrap ((i : Int) * 16) = A2) := ⟨_, hide rfl⟩
                      obtain ⟨A3, hA3⟩ : ∃ A3, Hid (IntKind.i64.wrap (A1 + A2) = A3) := ⟨_, hide rfl⟩
                      obtain ⟨A4, hA4⟩ : ∃ A4, Hid (IntKind.i64.wrap (A3 + (s : Int)) = A4) := ⟨_, hide rfl⟩
                      have hA5 : m.p b i s = A4 := by rw [unhide hm, ← unhide hA4, ← unhide hA3, ← unhide hA2, ← unhide hA1]
                      have e0' : wr.cell? ⟨ge, oe + s * 3, none⟩ = some (.int .i64 (a : Int)) := e0
                      have e1' : wr.cell? ⟨ge, oe + s * 3 + 1, none⟩ = some (.int .i64 (m.p b i s)) := e1
                      have e2' : wr.cell? ⟨ge, oe + s * 3 + 2, none⟩ = some (.slice ra rn' rc) := e2
                      rw [hA5] at e1'
                      have ew1 := unhide hA1
                      have ew2 := unhide hA2
                      have ew3 := unhide hA3
                      have ew4 := unhide hA4
                      have HB2 := hide ((unhide hW).trans ((box1n wr (.cells #[.int .i64 (a : Int), .int .i64 A4, .slice ra rn' rc] 68)).mono (unhide hW).size))
                      have l3 : (0 : Int) ≤ (s : Int) := by omega
                      have l4 : (s : Int) < (NE : Int) := by omega
                      clear hce hr' e0 e1 e2 hA5 e hge hr erv
                      go_wp2_with fail
                      go_roundg (gk - 1)
                      case measure => have := unhide hs; omega
                      case rel => exact ⟨s + 1, by have := unhide hs; unfold Hid; omega, by go_num, HB2⟩
                    · have hsN : s = NE := by have := unhide hs; omega
                      subst hsN
                      have k6 := ((unhide hW).cell (p := ⟨g8, o8 + i * 8 + 6, none⟩) (unhide HG8)).trans (unhide HK6)
                      obtain ⟨A1, hA1⟩ : ∃ A1, Hid (IntKind.i64.wrap ((a : Int) * 1099511627776) = A1) := ⟨_, hide rfl⟩
                      obtain ⟨A2, hA2⟩ : ∃ A2, Hid (IntKind.i64.wrap ((b : Int) * 1048576) = A2) := ⟨_, hide rfl⟩
                      obtain ⟨A3, hA3⟩ : ∃ A3, Hid (IntKind.i64.wrap (A1 + A2) = A3) := ⟨_, hide rfl⟩
                      obtain ⟨A4, hA4⟩ : ∃ A4, Hid (IntKind.i64.wrap (A3 + (i : Int)) = A4) := ⟨_, hide rfl⟩
                      have hA5 : m.n a b i = A4 := by rw [unhide hm, ← unhide hA4, ← unhide hA3, ← unhide hA2, ← unhide hA1]
                      rw [hA5] at k6
                      have ew1 := unhide hA1
                      have ew2 := unhide hA2
                      have ew3 := unhide hA3
                      have ew4 := unhide hA4
                      clear hA5
                      go_wp2_with fail
                      go_roundg (G3 - 1)
                      case measure => have h1 := unhide hG3; have h2 := unhide hi; omega
                      case rel => exact ⟨i + 1, by have h1 := unhide hG3; have h2 := unhide hi; unfold Hid; omega, by go_num, hW⟩
                · have hiN : i = NT := by have := unhide hi; omega
                  subst hiN
                  have b0 := ((unhide hW).cell (p := ⟨gb, ob + b * 3, none⟩) (unhide HGB)).trans (unhide HB0)
                  obtain ⟨A1, hA1⟩ : ∃ A1, Hid (IntKind.i64.wrap ((a : Int) * 1048576) = A1) := ⟨_, hide rfl⟩
                  obtain ⟨A2, hA2⟩ : ∃ A2, Hid (IntKind.i64.wrap (A1 + (b : Int)) = A2) := ⟨_, hide rfl⟩
                  have hA5 : m.c a b = A2 := by rw [unhide hm, ← unhide hA2, ← unhide hA1]
                  rw [hA5] at b0
                  have ew1 := unhide hA1
                  have ew2 := unhide hA2
                  clear hA5
                  go_wp2_with fail
                  go_roundg (G2 - 1)
                  case measure => have h1 := unhide hG2; have h2 := unhide hb; omega
                  case rel => exact ⟨b + 1, by have h1 := unhide hG2; have h2 := unhide hb; unfold Hid; omega, by go_num, hW⟩
            · have hbN : b = NX := by have := unhide hb; omega
              subst hbN
              go_wp2_with fail
              go_roundg (G0 - 1)
              case measure => have h1 := unhide hG0; have h2 := unhide ha; omega
              case rel => exact ⟨a + 1, by have h1 := unhide hG0; have h2 := unhide ha; unfold Hid; omega, by go_num, hW⟩
        · have hak : a = k := by have := unhide ha; omega
          subst hak
          go_wp2_with fail
          go_ret
          exact ⟨rfl, (((unhide HF1).mono (fun q _ e2 => e2.elim (fun e2 => .inl (by cases e2; rfl)) .inr)).trans ((unhide HF2).mono (fun q _ e2 => .inr (unhide HMEM q e2)))).trans (Fr.of_below (S := fun q => lb = q ∨ ∃ x ∈ cs, blG x q) (unhide hW))⟩
end Go.Proofs.Ytiamoinhmkhaoaa
