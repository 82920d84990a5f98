/-
  apartGrown: every list of codes of one's own is grown by marks of its own, and all marks are found again.
-/
import Derived.Test.YtiamoinhmkhaoaaGh
namespace Go.Proofs.Ytiamoinhmkhaoaa
open Go.RowKit
set_option linter.unusedVariables false
set_option linter.unusedSimpArgs false
/-- append of one slice onto a list of slices. -/
theorem appV {t te : TypeId} (hund : Try.prog.underlying t = some (.slice te)) (hinf : (Try.prog.info? te).map (fun i => (i.zero, i.size, i.bytes)) = some (some (.slice none 0 0), 1, 24)) {w : World} {ops : Array Oper} {rest : List Oper} {o : Oper} {a : Act} {Q : Exit → Act → World → Prop}
    (hg : o.guard = none) (s x : Operand) (hop : o.op = Op.call { callee := Callee.builtin Builtin.append, args := #[s, x], argTypes := #[t, t] })
    (v : Value) (l : List Value) (hs : a.eval s = v) (hr : Ro w 1 v l.length (flt enV l)) (ad : Addr) (c : Nat) (p : Value) (hx : a.eval x = .slice (some ad) 1 c) (hc : ∀ j u, (enV p)[j]? = some u → w.cell? (ad.add j) = some u) (h1 : p.oneCell' = true)
    (hn : l.length ≤ 1099511627776)
    (hK : ∀ v' w', Ro w' 1 v' (l.length + 1) (flt enV l ++ enV p) → w.grownBy w' v.ownBlock → (v'.ownBlock = v.ownBlock ∨ v'.ownBlock = some w.heap.size) → wpList Try.prog ops Q rest (a.put o.dst v') w') :
    wpList Try.prog ops Q (o :: rest) a w := by
  obtain ⟨i0, hi0, hz0, hz1, hz2⟩ := info_parts hinf
  exact wpList_app hg s x t hop te i0 _ 1 24 hund hi0 hz0 hz1 hz2 rfl (by decide) v _ _ hs hr ad 1 c (enV p) hx (by rw [zV]) hc (by intro u hu; simp only [enV, List.mem_cons, List.not_mem_nil, or_false] at hu; rcases hu with rfl; exact h1) (by omega) (by unfold maxLen; omega) (by omega) hK
theorem Ro.cellg {T : Type} {en : T → List Value} {sz : Nat} (hz : ∀ x, (en x).length = sz) {w : World} {g off n cap : Nat} {xs : List T} (h : Ro w sz (.slice (some ⟨g, off, none⟩) n cap) n (flt en xs)) (hl : xs.length = n) {i : Nat} {x : T} (hx : xs[i]? = some x) {c : Nat} {u : Value} (hu : (en x)[c]? = some u) : w.cell? ⟨g, off + i * sz + c, none⟩ = some u := by
  subst hl
  obtain ⟨b, o, cap', e, _, _, _, q⟩ := (Rx.of_ro h).elem hz hx
  cases e
  exact q c u hu
theorem GQ.cell {T : Type} {en : T → List Value} {sz : Nat} (hz : ∀ x, (en x).length = sz) {mk : Nat → T} {cnt tg : Nat} {G : Nat → Nat} {gv : Value} {vals : List Value} {w : World} (h : GQ en sz mk cnt G tg gv vals w) {j : Nat} {u : Value} (hu : vals[j]? = some u) :
    ∃ ga oa ac g o c, gv = .slice (some ⟨ga, oa, none⟩) vals.length ac ∧ vals.length ≤ ac ∧ ac ≤ maxLen ∧ ga < w.heap.size ∧ w.cell? ⟨ga, oa + j, none⟩ = some (.slice (some ⟨g, o, none⟩) cnt c) ∧ cnt ≤ c ∧ c ≤ maxLen ∧ g < w.heap.size ∧ ∀ n, n < cnt → ∀ f z, (en (mk j))[f]? = some z → w.cell? ⟨g, o + n * sz + f, none⟩ = some z := by
  obtain ⟨ga, oa, ac, e1, q1, q2, q3, q4⟩ := (Rx.of_ro h.row).elem zV hu
  obtain ⟨g, o, c, e2, _, hr⟩ := h.el j u hu
  obtain ⟨_, _, e3, c1, c2⟩ := hr.shape
  rw [e2] at e3
  cases e3
  have h0 := q4 0 _ rfl
  rw [Nat.mul_one, Nat.add_zero, e2] at h0
  refine ⟨ga, oa, ac, g, o, _, e1, q1, q2, q3, h0, c1, c2, hr.lt g (by rw [e2]; rfl), fun n hn f z hz2 => ?_⟩
  rw [e2] at hr
  exact hr.cellg hz (by simp) (x := mk j) (by rw [List.getElem?_replicate, if_pos hn]) hz2
theorem fl2 {cs : List TC} {k : Nat} {c : TC} (hc : cs[k]? = some c) : (((cs.take k).flatMap Prod.snd).flatMap Prod.snd).length + (c.2.flatMap Prod.snd).length ≤ ((cs.flatMap Prod.snd).flatMap Prod.snd).length := by
  have h1 : cs.flatMap Prod.snd = (cs.take k).flatMap Prod.snd ++ (c.2 ++ (cs.drop (k + 1)).flatMap Prod.snd) := by
    conv => lhs; rw [← List.take_append_drop k cs, List.drop_eq_getElem_cons (List.getElem?_eq_some_iff.1 hc).1]
    rw [(List.getElem?_eq_some_iff.1 hc).2]
    simp
  rw [h1]
  simp only [List.flatMap_append, List.length_append]
  omega
set_option maxRecDepth 100000 in
set_option maxHeartbeats 12800000 in
theorem grown_any {w : World} {lb lo lc : Nat} {cs : List TC} (hL : LOC w (.slice (some ⟨lb, lo, none⟩) cs.length lc) cs) (hRb : cs.length ≤ 1073741824) (hIb : (cs.flatMap Prod.snd).length ≤ 1073741824) (hEb : ((cs.flatMap Prod.snd).flatMap Prod.snd).length ≤ 1073741824) (hSb : ∀ c ∈ cs, ∀ x ∈ c.2, ∀ t ∈ x.2, t.2.length ≤ 1073741824) :
    Calls Try.prog 50 #[.slice (some ⟨lb, lo, none⟩) cs.length lc] w fun e w' => e = .returned (.bool true) ∧ LOC w' (.slice (some ⟨lb, lo, none⟩) cs.length lc) cs ∧ Fr (fun q => ∃ y ∈ cs, blG y q) w w' := by
  obtain ⟨_, _, es, hl1, hl2⟩ := hL.row.shape
  cases es
  unfold maxLen at hl2
  have hlb : lb < w.heap.size := hL.row.lt lb rfl
  obtain ⟨M, hM⟩ : ∃ M : Nat → Int, Hid (M = fun (j : Nat) => IntKind.i64.wrap (-1 - (j : Int))) := ⟨_, hide rfl⟩
  obtain ⟨R, hR⟩ : ∃ R, Hid (cs.length = R) := ⟨_, hide rfl⟩
  have HAC := hide hL.ao
  have HEC := hide hL.el
  have HS0 := hide (CS.start (M := M) hL)
  have HSB := hide hSb
  have HIB := hide hIb
  have HEB := hide hEb
  rw [unhide hR] at hl1 hRb HAC HS0 ⊢
  obtain ⟨V, hV⟩ : ∃ V, Hid (V = Value.slice (some ⟨lb, lo, none⟩) R lc) := ⟨_, hide rfl⟩
  have HV0 : Hid (∀ q, (Value.slice (some ⟨lb, lo, none⟩) R lc).ownBlock = some q → q < w.heap.size) := fun q hq => by cases hq; exact hlb
  clear hL hSb hIb hEb
  go_enter Try.func50, Try.ntmps50
  go_wp2_with fail
  go_loopg [3, 4, 5, 6] R (fun gg t3 t4 t5 t6 wr => ∃ (k : Nat) (gB gI gE : Value) (vB vI vE : List Value) (G : Nat → Nat), Hid (k + gg = R) ∧ t3 = gB ∧ t4 = gI ∧ t5 = gE ∧ t6 = .int .i64 (k : Int) ∧ Hid (CS M w (.slice (some ⟨lb, lo, none⟩) R lc) cs k gB gI gE vB vI vE G wr))
  case atStart => exact ⟨0, _, _, _, _, _, _, _, by unfold Hid; omega, rfl, rfl, rfl, rfl, HS0⟩
  case round =>
    clear HS0
    obtain ⟨k, gB, gI, gE, vB, vI, vE, G, hk, h3, h4, h5, rfl, hC⟩ := hrel
    subst h3 h4 h5
    obtain ⟨ba, bac, egB, hgb1, hgb2⟩ := (unhide hC).ga.B.row.shape
    rw [(unhide hC).nb] at egB hgb1
    subst egB
    by_cases hlt : k < R
    · obtain ⟨c, hc⟩ : ∃ c, cs[k]? = some c := ⟨_, List.getElem?_eq_getElem (by rw [unhide hR]; exact hlt)⟩
      obtain ⟨g, off, cap, e, _, _, hg, hcl, hcf⟩ := (unhide hC).lo.cells zTC hc
      rw [unhide hR] at e
      cases e
      have hCE := (unhide hC).lo.el k c hc
      have hAB : AO blF w.heap.size c.1.v c.2 := (unhide HEC k c hc).ao
      have hbv : ∀ q, c.1.v.ownBlock = some q → q < w.heap.size ∧ q ≠ lb := fun q hq => by
        have h1 := (unhide HAC).eb k c q hc (.inl hq)
        exact ⟨h1.1, fun e2 => h1.2 (by rw [e2]; rfl)⟩
      have hneC : ∀ q, blG c q → q ≠ lb := fun q hq e2 => ((unhide HAC).eb k c q hc hq).2 (by rw [e2]; rfl)
      obtain ⟨⟨fn, regs, bv⟩, X⟩ := c
      obtain ⟨xa, xc, ebv, hb1, hb2⟩ := hCE.row.shape
      dsimp only at ebv
      subst ebv
      unfold maxLen at hb2
      obtain ⟨NX, hNX⟩ : ∃ NX, Hid (X.length = NX) := ⟨_, hide rfl⟩
      obtain ⟨XB, hXB⟩ : ∃ XB, Hid (X.map Prod.fst = XB) := ⟨_, hide rfl⟩
      have hXBl : XB.length = NX := by rw [← unhide hXB, List.length_map, unhide hNX]
      have hNXb : NX ≤ 1073741824 := by
        have h1 := fl_push Prod.snd hc
        have h2 := fl_le Prod.snd cs (k + 1)
        have h3 := unhide HIB
        rw [← unhide hNX]
        dsimp only at h1
        omega
      have c2 : wr.cell? ⟨lb, lo + k * 3 + 2, none⟩ = some (.slice xa X.length xc) := hcl 2 _ rfl
      have hro : Ro wr 3 (.slice xa X.length xc) XB.length (flt enBk XB) := by
        rw [← unhide hXB, List.length_map, ← flt_TB]
        exact hCE.row
      obtain ⟨MM, hMM⟩ : ∃ MM, Hid (M k = MM) := ⟨_, hide rfl⟩
      have HGR := hide (GR.start (z := (⟨MM, .slice none 0 0, .slice none 0 0⟩ : BkR)) hro)
      have HVL : Hid (∀ q, (Value.slice xa X.length xc).ownBlock = some q → q < wr.heap.size) := fun q hq => hro.lt q hq
      have HBV := hide hbv
      have HAB := hide hAB
      have HNE := hide hneC
      have HC1 := hide hc
      dsimp only at HBV HAB
      obtain ⟨Wk, rfl⟩ : ∃ Wk, Wk = wr := ⟨_, rfl⟩
      obtain ⟨Gk, rfl⟩ : ∃ Gk, Gk = G := ⟨_, rfl⟩
      have HCF : Hid (∀ V : World, Fr (fun q => blG ((⟨fn, regs, .slice xa X.length xc⟩ : CdR), X) q ∨ w.heap.size ≤ q) Wk V → V.cell? ⟨lb, lo + k * 3 + 2, none⟩ = some (.slice xa X.length xc) ∧ lb < V.heap.size ∧ w.heap.size ≤ V.heap.size) := fun V f =>
        ⟨(f.cell (a := ⟨lb, lo + k * 3 + 2, none⟩) hg (fun e2 => e2.elim (fun e2 => hneC _ e2 rfl) (fun e2 => by have e3 : w.heap.size ≤ lb := e2; omega))).trans c2, Nat.lt_of_lt_of_le hg f.size, Nat.le_trans (unhide hC).fr.size f.size⟩
      rw [unhide hNX] at hb1 c2 HGR HVL HBV HAB HNE HC1 HCF
      have i0 : (0 : Int) ≤ (k : Int) := by omega
      have i1 : (k : Int) < (R : Int) := by omega
      obtain ⟨G0, hG0⟩ : ∃ G0 : Nat, Hid (G0 = gk) := ⟨_, rfl⟩
      have ewM : IntKind.i64.wrap (-1 - (k : Int)) = MM := by rw [← unhide hMM, unhide hM]
      unfold maxLen at hgb2
      clear hcl hcf hCE hAB hbv hneC hro hc
      go_wp2_with fail
      go_loopg [7, 8] 16 (fun gg t7 t8 wr => ∃ (m : Nat) (hv : Value), Hid (m + gg = 16) ∧ t7 = hv ∧ t8 = .int .i64 (m : Int) ∧ Hid (GR enBk 3 (⟨MM, .slice none 0 0, .slice none 0 0⟩ : BkR) Wk (.slice xa NX xc) XB m hv wr))
      case atStart => exact ⟨0, _, by unfold Hid; omega, rfl, rfl, HGR⟩
      case round =>
        clear HGR c2 hg
        obtain ⟨m, hv, hm, h7, rfl, hGr⟩ := hrel
        obtain ⟨ha, hac, eh, hh1, hh2⟩ := (unhide hGr).hr.shape
        rw [hXBl] at eh hh1
        subst eh
        subst h7
        by_cases hmt : m < 16
        · have j0 : (0 : Int) ≤ (m : Int) := by omega
          have j1 : (m : Int) < 16 := by omega
          have HRO : Hid (Ro (wr.alloc (.cells #[.int .i64 MM, .slice none 0 0, .slice none 0 0] 39)) 3 (.slice ha (NX + m) hac) (NX + m) (flt enBk (XB ++ List.replicate m ⟨MM, .slice none 0 0, .slice none 0 0⟩))) := by
            have q := (unhide hGr).hr
            rw [hXBl] at q
            exact q.fr (S := fun _ => False) ((Fr.refl _ wr).alloc _) (fun _ _ e => e)
          have HNC := hide (new_cells wr #[.int .i64 MM, .slice none 0 0, .slice none 0 0] 39)
          have HLN : Hid (NX + m ≤ 1099511627776) := by unfold Hid; omega
          unfold maxLen at hh2
          go_wp2_with (first | (at_builtin; refine wpList_appG (en := enBk) (te := 39) Try.underlying22 infBk rfl (by decide) (by decide) zBk rfl _ _ rfl _ (NX + m) _ rfl (unhide HRO) ⟨wr.heap.size, 0, none⟩ 1 ⟨MM, .slice none 0 0, .slice none 0 0⟩ rfl (unhide HNC) (by intro u hu; simp only [enBk, List.mem_cons, List.not_mem_nil, or_false] at hu; rcases hu with rfl | rfl | rfl <;> rfl) (unhide HLN) ?_))
          intro v' w' hr' hg' hat' hold'
          have HN := hide ((unhide hGr).step zBk (unhide HVL) (by rw [hXBl]; exact hr') hg' (by rw [hXBl]; rcases hat' with ⟨g1, o1, c1, ⟨e1, e2⟩, e3⟩ | e1; exact .inl ⟨g1, o1, c1, by rw [e1, e2], e3⟩; exact .inr (by simpa using e1)) (by rw [hXBl]; exact hold'))
          clear hr' hg' hat' hold' HRO HNC HLN
          go_wp2_with fail
          go_roundg (gk - 1)
          case measure => have := unhide hm; omega
          case rel => exact ⟨m + 1, v', by have := unhide hm; unfold Hid; omega, rfl, by go_num, HN⟩
        · have hm16 : m = 16 := by have := unhide hm; omega
          subst hm16
          obtain ⟨gh, oh, hac', eh, hh1', _⟩ := (unhide hGr).hr.full (by omega)
          rw [hXBl] at eh hh1'
          cases eh
          have hgf := (unhide hGr).fr
          obtain ⟨c2, hlb2, _⟩ := unhide HCF wr (hgf.mono (fun q _ e => .inl (.inl e)))
          have hsl := fun W => slB gh oh NX hac (by omega) W
          have HGB := hide ((unhide hC).ga.B.row.fr hgf (fun q hq e => by
            have h1 := (unhide hC).ga.B.rb q hq
            have h2 := (unhide hC).z k _ q (Nat.le_refl _) (unhide HC1) (.inl e)
            omega))
          rw [(unhide hC).nb] at HGB
          have HNC := hide (new_cells wr #[.slice (some ⟨gh, oh + NX * 3, none⟩) 16 (hac - NX)] 22)
          have hnb := (unhide hC).nb
          have HRV : Hid (Ro (wr.alloc (.cells #[.slice (some ⟨gh, oh + NX * 3, none⟩) 16 (hac - NX)] 22)) 1 (.slice ba k bac) vB.length (flt enV vB)) := by
            rw [hnb]
            exact Ro.fr (S := fun _ => False) (unhide HGB) ((Fr.refl _ wr).alloc _) (fun _ _ e => e)
          have HLN : Hid (vB.length ≤ 1099511627776) := by unfold Hid; omega
          have n0 : (0 : Int) ≤ (NX : Int) := by omega
          unfold maxLen at hh2
          clear hgf hh1'
          go_wp2_with (first | (at_builtin; refine appV Try.underlying98 infR84 rfl _ _ rfl _ vB rfl (unhide HRV) ⟨wr.heap.size, 0, none⟩ 1 (.slice (some ⟨gh, oh + NX * 3, none⟩) 16 (hac - NX)) rfl (unhide HNC) rfl (unhide HLN) ?_))
          intro gv w2 hr hg hat
          have hz5 : (⟨MM, .slice none 0 0, .slice none 0 0⟩ : BkR) = mkGB M k := by unfold mkGB; rw [unhide hMM]
          have hgr5 := unhide hGr
          rw [hz5, ← unhide hXB] at hgr5
          have hXm : (X.map Prod.fst).length = NX := by rw [List.length_map, unhide hNX]
          obtain ⟨vB1, hvB1, hBS⟩ := BSg.start (unhide hC) (unhide HC1) (unhide HAC) (unhide HAB) hgr5 (by rw [hXm]) (box1n wr _) (by rw [hXm]; exact hr) (by first | rfl | omega) hg (by simpa using hat)
          obtain ⟨ga1, gac1, egv, _, _⟩ := hr.shape
          try rw [hnb] at egv
          subst egv
          obtain ⟨G1, hG1⟩ : ∃ G1, Hid (tgg Gk Wk.heap.size gh wr.heap.size 1 = G1) := ⟨_, hide rfl⟩
          rw [unhide hG1] at hBS
          obtain ⟨nI0, hnI0⟩ : ∃ nI0, Hid (vI.length = nI0) := ⟨_, hide rfl⟩
          obtain ⟨nE0, hnE0⟩ : ∃ nE0, Hid (vE.length = nE0) := ⟨_, hide rfl⟩
          rw [unhide hnI0, unhide hnE0] at hBS
          have HNIb : Hid (nI0 + NX ≤ 1073741824) := by
            have h1 := fl_push Prod.snd (unhide HC1)
            have h2 := fl_le Prod.snd cs (k + 1)
            have h3 := unhide HIB
            have h4 := (unhide hC).ni
            have h5 := unhide hNX
            rw [unhide hnI0] at h4
            dsimp only at h1
            unfold Hid
            omega
          have HNEb : Hid (nE0 + (X.flatMap Prod.snd).length ≤ 1073741824) := by
            have h1 := fl2 (unhide HC1)
            have h3 := unhide HEB
            have h4 := (unhide hC).ne
            rw [unhide hnE0] at h4
            dsimp only at h1
            unfold Hid
            omega
          have HBS := hide hBS
          have HVB1 := hide hvB1
          clear hBS hvB1 hgr5 hz5 hr hg hat HNC HRV HLN HGB c2 hlb2 hsl hGr HVL hnb ewM
          go_wp2_with fail
          go_loopg [4, 5, 9] NX (fun gg t4 t5 t9 wr => ∃ (b : Nat) (gI gE : Value) (vI vE : List Value) (G : Nat → Nat), Hid (b + gg = NX) ∧ t4 = gI ∧ t5 = gE ∧ t9 = .int .i64 (b : Int) ∧ Hid (BSg M w.heap.size Wk Gk ((⟨fn, regs, .slice xa NX xc⟩ : CdR), X) b nI0 nE0 (.slice ga1 (k + 1) gac1) gI gE vB1 vI vE G wr))
          case atStart => exact ⟨0, _, _, _, _, _, by unfold Hid; omega, rfl, rfl, rfl, HBS⟩
          case round =>
            clear HBS
            obtain ⟨b, gI, gE, vI2, vE2, G, hb, h4, h5, rfl, hB⟩ := hrel
            subst h4 h5
            obtain ⟨c2, hlb2, hws⟩ := unhide HCF _ (unhide hB).fr
            by_cases hlt2 : b < NX
            · obtain ⟨ia, iac, egI, hgi1, hgi2⟩ := (unhide hB).ga.I.row.shape
              obtain ⟨NI, hNI⟩ : ∃ NI, Hid (vI2.length = NI) := ⟨_, hide rfl⟩
              rw [unhide hNI] at egI hgi1
              subst egI
              have hNIb : NI ≤ 1073741824 := by
                have h1 := (unhide hB).ni
                have h2 := unhide HNIb
                have h3 := unhide hNI
                omega
              obtain ⟨x, hx⟩ : ∃ x, X[b]? = some x := ⟨_, List.getElem?_eq_getElem (by rw [unhide hNX]; exact hlt2)⟩
              obtain ⟨gb, ob, cb, e, _, _, hgb, hbl, _⟩ := LO.cells zTB (unhide hB).lo hx
              have e5 : Value.slice xa NX xc = .slice (some ⟨gb, ob, none⟩) X.length cb := e
              rw [unhide hNX] at e5
              cases e5
              have hBE : BEo wr x := LO.el (unhide hB).lo b x hx
              have hAI : AO blE w.heap.size x.1.iv x.2 := ((unhide HEC k _ (unhide HC1)).el b x hx).ao
              have hiv : ∀ q, x.1.iv.ownBlock = some q → q < w.heap.size := fun q hq => ((unhide HAB).eb b x q hx (.inl hq)).1
              obtain ⟨⟨pc, iv, nv⟩, ts⟩ := x
              obtain ⟨ya, yc, eiv, hi1, hi2⟩ := hBE.row.shape
              dsimp only at eiv
              subst eiv
              unfold maxLen at hi2 hgi2
              obtain ⟨NT, hNT⟩ : ∃ NT, Hid (ts.length = NT) := ⟨_, hide rfl⟩
              obtain ⟨XI, hXI⟩ : ∃ XI, Hid (ts.map Prod.fst = XI) := ⟨_, hide rfl⟩
              have hXIl : XI.length = NT := by rw [← unhide hXI, List.length_map, unhide hNT]
              have HTE : Hid (((X.take b).flatMap Prod.snd).length + ts.length ≤ (X.flatMap Prod.snd).length) := by
                have h1 := fl_push Prod.snd hx
                have h2 := fl_le Prod.snd X (b + 1)
                dsimp only at h1
                unfold Hid
                omega
              have hNTb : NT ≤ 1073741824 := by
                have h1 := unhide HTE
                have h2 := unhide HNEb
                have h3 := unhide hNT
                omega
              have k1 : wr.cell? ⟨gb, ob + b * 3 + 1, none⟩ = some (.slice ya ts.length yc) := hbl 1 _ rfl
              have hro : Ro wr 8 (.slice ya ts.length yc) XI.length (flt enIn XI) := by
                rw [← unhide hXI, List.length_map, ← flt_T]
                exact hBE.row
              obtain ⟨M2, hM2⟩ : ∃ M2, Hid (M NI = M2) := ⟨_, hide rfl⟩
              have HGR := hide (GR.start (z := (⟨0, 0, 0, .slice none 0 0, 0, 0, M2, .slice none 0 0⟩ : InR)) hro)
              have HVL : Hid (∀ q, (Value.slice ya ts.length yc).ownBlock = some q → q < wr.heap.size) := fun q hq => hro.lt q hq
              have HAI := hide hAI
              have HIV := hide hiv
              have HX1 := hide hx
              dsimp only at HAI HIV
              obtain ⟨Wb, rfl⟩ : ∃ Wb, Wb = wr := ⟨_, rfl⟩
              obtain ⟨Gb, rfl⟩ : ∃ Gb, Gb = G := ⟨_, rfl⟩
              rw [unhide hNT] at hi1 k1 HGR HVL HAI HIV HX1
              have i0' : (0 : Int) ≤ (b : Int) := by omega
              have i1' : (b : Int) < (NX : Int) := by omega
              obtain ⟨G2, hG2⟩ : ∃ G2 : Nat, Hid (G2 = gk) := ⟨_, rfl⟩
              have ewM : IntKind.i64.wrap (-1 - (NI : Int)) = M2 := by rw [← unhide hM2, unhide hM]
              clear hbl hBE hAI hiv hro hx e
              go_wp2_with fail
              clear c2 hlb2 k1 hgb
              go_loopg [11, 12] 16 (fun gg t11 t12 wr => ∃ (m : Nat) (hv : Value), Hid (m + gg = 16) ∧ t11 = hv ∧ t12 = .int .i64 (m : Int) ∧ Hid (GR enIn 8 (⟨0, 0, 0, .slice none 0 0, 0, 0, M2, .slice none 0 0⟩ : InR) Wb (.slice ya NT yc) XI m hv wr))
              case atStart => exact ⟨0, _, by unfold Hid; omega, rfl, rfl, HGR⟩
              case round =>
                clear HGR
                obtain ⟨m, hv, hm, h7, rfl, hGr⟩ := hrel
                obtain ⟨ha, hac, eh, hh1, hh2⟩ := (unhide hGr).hr.shape
                rw [hXIl] at eh hh1
                subst eh
                subst h7
                by_cases hmt : m < 16
                · have j0 : (0 : Int) ≤ (m : Int) := by omega
                  have j1 : (m : Int) < 16 := by omega
                  have HRO : Hid (Ro (wr.alloc (.cells #[.int .i64 0, .int .i64 0, .int .i64 0, .slice none 0 0, .int .i64 0, .int .i64 0, .int .i64 M2, .slice none 0 0] 43)) 8 (.slice ha (NT + m) hac) (NT + m) (flt enIn (XI ++ List.replicate m ⟨0, 0, 0, .slice none 0 0, 0, 0, M2, .slice none 0 0⟩))) := by
                    have q := (unhide hGr).hr
                    rw [hXIl] at q
                    exact q.fr (S := fun _ => False) ((Fr.refl _ wr).alloc _) (fun _ _ e => e)
                  have HNC := hide (new_cells wr #[.int .i64 0, .int .i64 0, .int .i64 0, .slice none 0 0, .int .i64 0, .int .i64 0, .int .i64 M2, .slice none 0 0] 43)
                  have HLN : Hid (NT + m ≤ 1099511627776) := by unfold Hid; omega
                  unfold maxLen at hh2
                  go_wp2_with (first | (at_builtin; refine wpList_appG (en := enIn) (te := 43) Try.underlying36 infIn rfl (by decide) (by decide) zIn rfl _ _ rfl _ (NT + m) _ rfl (unhide HRO) ⟨wr.heap.size, 0, none⟩ 1 ⟨0, 0, 0, .slice none 0 0, 0, 0, M2, .slice none 0 0⟩ rfl (unhide HNC) (by intro u hu; simp only [enIn, List.mem_cons, List.not_mem_nil, or_false] at hu; rcases hu with rfl | rfl | rfl | rfl | rfl | rfl | rfl | rfl <;> rfl) (unhide HLN) ?_))
                  intro v' w' hr' hg' hat' hold'
                  have HN := hide ((unhide hGr).step zIn (unhide HVL) (by rw [hXIl]; exact hr') hg' (by rw [hXIl]; rcases hat' with ⟨g1, o1, c1, ⟨e1, e2⟩, e3⟩ | e1; exact .inl ⟨g1, o1, c1, by rw [e1, e2], e3⟩; exact .inr (by simpa using e1)) (by rw [hXIl]; exact hold'))
                  clear hr' hg' hat' hold' HRO HNC HLN
                  go_wp2_with fail
                  go_roundg (gk - 1)
                  case measure => have := unhide hm; omega
                  case rel => exact ⟨m + 1, v', by have := unhide hm; unfold Hid; omega, rfl, by go_num, HN⟩
                · have hm16 : m = 16 := by have := unhide hm; omega
                  subst hm16
                  obtain ⟨gh, oh, hac', eh, hh1', _⟩ := (unhide hGr).hr.full (by omega)
                  rw [hXIl] at eh hh1'
                  cases eh
                  have hgf := (unhide hGr).fr
                  have hsl := fun W => slI gh oh NT hac (by omega) W
                  have HGB := hide ((unhide hB).ga.I.row.fr hgf (fun q hq e => by
                    have h1 := (unhide hB).ga.I.rb q hq
                    have h2 := (unhide hB).z b _ q (Nat.le_refl _) (unhide HX1) (.inl e)
                    omega))
                  rw [unhide hNI] at HGB
                  have HNC := hide (new_cells wr #[.slice (some ⟨gh, oh + NT * 8, none⟩) 16 (hac - NT)] 36)
                  have HRV : Hid (Ro (wr.alloc (.cells #[.slice (some ⟨gh, oh + NT * 8, none⟩) 16 (hac - NT)] 36)) 1 (.slice ia NI iac) vI2.length (flt enV vI2)) := by
                    rw [unhide hNI]
                    exact Ro.fr (S := fun _ => False) (unhide HGB) ((Fr.refl _ wr).alloc _) (fun _ _ e => e)
                  have HLN : Hid (vI2.length ≤ 1099511627776) := by rw [unhide hNI]; unfold Hid; omega
                  have n0 : (0 : Int) ≤ (NT : Int) := by omega
                  unfold maxLen at hh2
                  clear hgf hh1'
                  go_wp2_with (first | (at_builtin; refine appV Try.underlying31 infR22 rfl _ _ rfl _ vI2 rfl (unhide HRV) ⟨wr.heap.size, 0, none⟩ 1 (.slice (some ⟨gh, oh + NT * 8, none⟩) 16 (hac - NT)) rfl (unhide HNC) rfl (unhide HLN) ?_))
                  intro gv w2 hr hg hat
                  have hz5 : (⟨0, 0, 0, .slice none 0 0, 0, 0, M2, .slice none 0 0⟩ : InR) = mkGI M vI2.length := by unfold mkGI; rw [unhide hNI, unhide hM2]
                  have hgr5 := unhide hGr
                  rw [hz5, ← unhide hXI] at hgr5
                  have hXm : (ts.map Prod.fst).length = NT := by rw [List.length_map, unhide hNT]
                  obtain ⟨vI3, hvI3, hIS⟩ := IS.start (unhide hB) hws (unhide HX1) (unhide HAB) (unhide HAI) hgr5 (by rw [hXm]) (box1n wr _) (by rw [hXm]; exact hr) rfl hg (by simpa using hat)
                  obtain ⟨ga2, gac2, egv, _, _⟩ := hr.shape
                  rw [unhide hNI] at egv
                  subst egv
                  obtain ⟨G3', hG3'⟩ : ∃ G3', Hid (tgg Gb Wb.heap.size gh wr.heap.size 2 = G3') := ⟨_, hide rfl⟩
                  rw [unhide hG3'] at hIS
                  obtain ⟨nE1, hnE1⟩ : ∃ nE1, Hid (vE2.length = nE1) := ⟨_, hide rfl⟩
                  rw [unhide hnE1] at hIS
                  have HNE1 : Hid (nE1 + NT ≤ 1073741824) := by
                    have h1 := unhide HTE
                    have h2 := unhide HNEb
                    have h3 := (unhide hB).ne
                    have h4 := unhide hNT
                    rw [unhide hnE1] at h3
                    dsimp only at h3
                    unfold Hid
                    omega
                  have HIS := hide hIS
                  have HVI3 := hide hvI3
                  clear hIS hvI3 hgr5 hz5 hr hg hat HNC HRV HLN HGB hsl hGr HVL ewM
                  go_wp2_with fail
                  go_loopg [5, 13] NT (fun gg t5 t13 wr => ∃ (i : Nat) (gE : Value) (vE : List Value) (G : Nat → Nat), Hid (i + gg = NT) ∧ t5 = gE ∧ t13 = .int .i64 (i : Int) ∧ Hid (IS M w.heap.size Wb Gb ((⟨pc, .slice ya NT yc, nv⟩ : BkR), ts) i nE1 (.slice ga1 (k + 1) gac1) (.slice ga2 (NI + 1) gac2) gE vB1 vI3 vE G wr))
                  case atStart => exact ⟨0, _, _, _, by unfold Hid; omega, rfl, rfl, HIS⟩
                  case round =>
                    clear HIS
                    obtain ⟨i, gE, vE4, G, hi, h5, rfl, hI⟩ := hrel
                    subst h5
                    have hws4 : w.heap.size ≤ wr.heap.size := Nat.le_trans hws (unhide hI).fr.size
                    by_cases hlt3 : i < NT
                    · obtain ⟨sa, sac, egE, hge1, hge2⟩ := (unhide hI).ga.E.row.shape
                      obtain ⟨NE, hNE⟩ : ∃ NE, Hid (vE4.length = NE) := ⟨_, hide rfl⟩
                      rw [unhide hNE] at egE hge1
                      subst egE
                      have hNEb : NE ≤ 1073741824 := by
                        have h1 := (unhide hI).ne
                        have h2 := unhide HNE1
                        have h3 := unhide hNE
                        omega
                      obtain ⟨t, ht⟩ : ∃ t, ts[i]? = some t := ⟨_, List.getElem?_eq_getElem (by rw [unhide hNT]; exact hlt3)⟩
                      obtain ⟨g8, o8, c8, e, _, _, hg8, hc8, _⟩ := LO.cells zT (unhide hI).lo ht
                      have e5 : Value.slice ya NT yc = .slice (some ⟨g8, o8, none⟩) ts.length c8 := e
                      rw [unhide hNT] at e5
                      cases e5
                      have hIE : IEo wr t := LO.el (unhide hI).lo i t ht
                      have hev : ∀ q, t.1.ev.ownBlock = some q → q ≠ g8 := fun q hq e2 => ((unhide HAI).eb i t q ht hq).2 (by rw [e2]; rfl)
                      have hSl : t.2.length ≤ 1073741824 := unhide HSB _ (List.mem_of_getElem? (unhide HC1)) _ (List.mem_of_getElem? (unhide HX1)) t (List.mem_of_getElem? ht)
                      obtain ⟨⟨rop, rcode, rdst, av, rn, rpc, rneed, ev⟩, rs⟩ := t
                      obtain ⟨qa, qc, eev, he1, he2⟩ := hIE.row.shape
                      dsimp only at eev hSl
                      subst eev
                      unfold maxLen at he2 hge2
                      obtain ⟨NS, hNS⟩ : ∃ NS, Hid (rs.length = NS) := ⟨_, hide rfl⟩
                      have k7 : wr.cell? ⟨g8, o8 + i * 8 + 7, none⟩ = some (.slice qa rs.length qc) := hc8 7 _ rfl
                      obtain ⟨M3, hM3⟩ : ∃ M3, Hid (M NE = M3) := ⟨_, hide rfl⟩
                      have hro : Ro wr 3 (.slice qa rs.length qc) rs.length (flt enSh rs) := hIE.row
                      have HGR := hide (GR.start (z := (⟨M3, 0, .slice none 0 0⟩ : ShR)) hro)
                      have HVL : Hid (∀ q, (Value.slice qa rs.length qc).ownBlock = some q → q < wr.heap.size) := fun q hq => hro.lt q hq
                      obtain ⟨Wi, rfl⟩ : ∃ Wi, Wi = wr := ⟨_, rfl⟩
                      obtain ⟨Gi, rfl⟩ : ∃ Gi, Gi = G := ⟨_, rfl⟩
                      have HK7 : Hid (∀ V : World, Fr (fun q => (Value.slice qa rs.length qc).ownBlock = some q) Wi V → V.cell? ⟨g8, o8 + i * 8 + 7, none⟩ = some (.slice qa rs.length qc) ∧ g8 < V.heap.size) := fun V f => ⟨(f.cell (a := ⟨g8, o8 + i * 8 + 7, none⟩) hg8 (fun e2 => hev _ e2 rfl)).trans k7, Nat.lt_of_lt_of_le hg8 f.size⟩
                      have HT1 := hide ht
                      rw [unhide hNS] at he1 k7 HVL HK7 HT1 HGR hSl
                      have l0 : (0 : Int) ≤ (i : Int) := by omega
                      have l1 : (i : Int) < (NT : Int) := by omega
                      obtain ⟨G4, hG4⟩ : ∃ G4 : Nat, Hid (G4 = gk) := ⟨_, rfl⟩
                      have ewM : IntKind.i64.wrap (-1 - (NE : Int)) = M3 := by rw [← unhide hM3, unhide hM]
                      clear hc8 hIE hev hro ht e
                      go_wp2_with fail
                      clear k7 hg8
                      go_loopg [14, 15] 4 (fun gg t14 t15 wr => ∃ (m : Nat) (hv : Value), Hid (m + gg = 4) ∧ t14 = hv ∧ t15 = .int .i64 (m : Int) ∧ Hid (GR enSh 3 (⟨M3, 0, .slice none 0 0⟩ : ShR) Wi (.slice qa NS qc) rs m hv wr))
                      case atStart => exact ⟨0, _, by unfold Hid; omega, rfl, rfl, HGR⟩
                      case round =>
                        clear HGR
                        obtain ⟨m, hv, hm, h7, rfl, hGr⟩ := hrel
                        obtain ⟨ha, hac, eh, hh1, hh2⟩ := (unhide hGr).hr.shape
                        rw [unhide hNS] at eh hh1
                        subst eh
                        subst h7
                        by_cases hmt : m < 4
                        · have j0 : (0 : Int) ≤ (m : Int) := by omega
                          have j1 : (m : Int) < 4 := by omega
                          have HRO : Hid (Ro (wr.alloc (.cells #[.int .i64 M3, .int .i64 0, .slice none 0 0] 68)) 3 (.slice ha (NS + m) hac) (NS + m) (flt enSh (rs ++ List.replicate m ⟨M3, 0, .slice none 0 0⟩))) := by
                            have q := (unhide hGr).hr
                            rw [unhide hNS] at q
                            exact q.fr (S := fun _ => False) ((Fr.refl _ wr).alloc _) (fun _ _ e => e)
                          have HNC := hide (new_cells wr #[.int .i64 M3, .int .i64 0, .slice none 0 0] 68)
                          have HLN : Hid (NS + m ≤ 1099511627776) := by unfold Hid; omega
                          unfold maxLen at hh2
                          go_wp2_with (first | (at_builtin; refine wpList_appG (en := enSh) (te := 68) Try.underlying41 infSh rfl (by decide) (by decide) zSh rfl _ _ rfl _ (NS + m) _ rfl (unhide HRO) ⟨wr.heap.size, 0, none⟩ 1 ⟨M3, 0, .slice none 0 0⟩ rfl (unhide HNC) (by intro u hu; simp only [enSh, List.mem_cons, List.not_mem_nil, or_false] at hu; rcases hu with rfl | rfl | rfl <;> rfl) (unhide HLN) ?_))
                          intro v' w' hr' hg' hat' hold'
                          have HN := hide ((unhide hGr).step zSh (unhide HVL) (by rw [unhide hNS]; exact hr') hg' (by rw [unhide hNS]; rcases hat' with ⟨g1, o1, c1, ⟨e1, e2⟩, e3⟩ | e1; exact .inl ⟨g1, o1, c1, by rw [e1, e2], e3⟩; exact .inr (by simpa using e1)) (by rw [unhide hNS]; exact hold'))
                          clear hr' hg' hat' hold' HRO HNC HLN
                          go_wp2_with fail
                          go_roundg (gk - 1)
                          case measure => have := unhide hm; omega
                          case rel => exact ⟨m + 1, v', by have := unhide hm; unfold Hid; omega, rfl, by go_num, HN⟩
                        · have hm4 : m = 4 := by have := unhide hm; omega
                          subst hm4
                          obtain ⟨gh, oh, hac', eh, hh1', _⟩ := (unhide hGr).hr.full (by omega)
                          rw [unhide hNS] at eh hh1'
                          cases eh
                          have hgf := (unhide hGr).fr
                          obtain ⟨k7, hg8'⟩ := unhide HK7 wr hgf
                          have hsl := fun W => slE gh oh NS hac (by omega) W
                          have HGB := hide ((unhide hI).ga.E.row.fr hgf (fun q hq e => by
                            have h1 := (unhide hI).ga.E.rb q hq
                            have h2 := (unhide hI).z i _ q (Nat.le_refl _) (unhide HT1) e
                            omega))
                          rw [unhide hNE] at HGB
                          have HNC := hide (new_cells wr #[.slice (some ⟨gh, oh + NS * 3, none⟩) 4 (hac - NS)] 41)
                          have HRV : Hid (Ro (wr.alloc (.cells #[.slice (some ⟨gh, oh + NS * 3, none⟩) 4 (hac - NS)] 41)) 1 (.slice sa NE sac) vE4.length (flt enV vE4)) := by
                            rw [unhide hNE]
                            exact Ro.fr (S := fun _ => False) (unhide HGB) ((Fr.refl _ wr).alloc _) (fun _ _ e => e)
                          have HLN : Hid (vE4.length ≤ 1099511627776) := by rw [unhide hNE]; unfold Hid; omega
                          have n0 : (0 : Int) ≤ (NS : Int) := by omega
                          unfold maxLen at hh2
                          clear hgf hh1'
                          go_wp2_with (first | (at_builtin; refine appV Try.underlying29 infR43 rfl _ _ rfl _ vE4 rfl (unhide HRV) ⟨wr.heap.size, 0, none⟩ 1 (.slice (some ⟨gh, oh + NS * 3, none⟩) 4 (hac - NS)) rfl (unhide HNC) rfl (unhide HLN) ?_))
                          intro gv w2 hr hg hat
                          have hz5 : (⟨M3, 0, .slice none 0 0⟩ : ShR) = mkGE M vE4.length := by unfold mkGE; rw [unhide hNE, unhide hM3]
                          have hgr5 := unhide hGr
                          rw [hz5] at hgr5
                          obtain ⟨vE5, hIS⟩ := IS.step (unhide hI) hws4 (unhide HT1) (unhide HAI) (unhide HIV) hgr5 (by dsimp only; rw [unhide hNS]) (box1n wr _) (by dsimp only; rw [unhide hNS]; exact hr) rfl hg (by simpa using hat)
                          have HIS := hide hIS
                          clear hIS hgr5 hz5 hr hg hat HNC HRV HLN HGB hsl hGr HVL ewM k7 hg8'
                          go_wp2_with fail
                          go_roundg (G4 - 1)
                          case measure => have h1 := unhide hG4; have h2 := unhide hi; omega
                          case rel => exact ⟨i + 1, _, _, _, by have h1 := unhide hG4; have h2 := unhide hi; unfold Hid; omega, rfl, by go_num, HIS⟩
                    · have hiN : i = NT := by have := unhide hi; omega
                      subst hiN
                      have hN0 := BSg.next (unhide hB) hws (unhide HX1) (unhide HAB) (fun q hq => (unhide HBV q hq).1) (by
                        have q := unhide hI
                        rw [← unhide hnE1] at q
                        have hl := unhide hNT
                        dsimp only
                        rw [hl]
                        exact q) (unhide HVI3)
                      have HN := hide hN0
                      obtain ⟨c2, hlb2, _⟩ := unhide HCF _ hN0.fr
                      clear hN0
                      go_wp2_with fail
                      go_roundg (G2 - 1)
                      case measure => have h1 := unhide hG2; have h2 := unhide hb; omega
                      case rel => exact ⟨b + 1, _, _, _, _, _, by have h1 := unhide hG2; have h2 := unhide hb; unfold Hid; omega, rfl, rfl, by go_num, HN⟩
            · have hbN : b = NX := by have := unhide hb; omega
              subst hbN
              have HN := hide (CS.next (unhide hC) (unhide HC1) (unhide HAC) (unhide HV0) (by
                have q := unhide hB
                rw [← unhide hnI0, ← unhide hnE0] at q
                have hl := unhide hNX
                dsimp only
                rw [hl]
                exact q) (unhide HVB1))
              go_wp2_with fail
              go_roundg (G0 - 1)
              case measure => have h1 := unhide hG0; have h2 := unhide hk; omega
              case rel => exact ⟨k + 1, _, _, _, _, _, _, _, by have h1 := unhide hG0; have h2 := unhide hk; unfold Hid; omega, rfl, rfl, rfl, by go_num, HN⟩
    · have hkR : k = R := by have := unhide hk; omega
      subst hkR
      obtain ⟨ia, iac, egI, hgi1, hgi2⟩ := (unhide hC).ga.I.row.shape
      obtain ⟨sa, sac, egE, hge1, hge2⟩ := (unhide hC).ga.E.row.shape
      obtain ⟨NI, hLI⟩ : ∃ NI, Hid (vI.length = NI) := ⟨_, hide rfl⟩
      obtain ⟨NE, hLE⟩ : ∃ NE, Hid (vE.length = NE) := ⟨_, hide rfl⟩
      rw [unhide hLI] at egI hgi1
      rw [unhide hLE] at egE hge1
      subst egI egE
      have hLB : Hid (vB.length = k) := (unhide hC).nb
      have HGA := hide (unhide hC).ga
      have HLO := hide (unhide hC).lo
      have HFR := hide (unhide hC).fr
      unfold maxLen at hgi2 hge2 hgb2
      obtain ⟨Y, rfl⟩ : ∃ Y, Y = wr := ⟨_, rfl⟩
      clear hC hk
      go_wp2_with fail
      have HYB := hide (Below.refl Y.heap.size Y)
      go_loopg [16] k (fun gg t16 wr => ∃ (i : Nat), Hid (i + gg = k) ∧ t16 = .int .i64 (i : Int) ∧ Hid (Below Y.heap.size Y wr))
      case atStart => exact ⟨0, by unfold Hid; omega, rfl, HYB⟩
      case round =>
        clear HYB
        obtain ⟨i, hi, rfl, hW⟩ := hrel
        by_cases hlt : i < k
        · obtain ⟨u, hu⟩ : ∃ u, vB[i]? = some u := ⟨_, List.getElem?_eq_getElem (by rw [unhide hLB]; exact hlt)⟩
          obtain ⟨ga, oa, ac, g, o, c, e, q1, q2, q3, q4, q5, q6, q7, q8⟩ := (unhide HGA).B.cell zBk hu
          rw [unhide hLB] at e q1
          cases e
          have HQ8 := hide q8
          have HQ4 := hide q4
          have HQ7 := hide q7
          have HQ3 := hide q3
          have l1 := ((unhide hW).cell (p := ⟨ga, oa + i, none⟩) q3).trans q4
          have l2 := Nat.lt_of_lt_of_le q3 (unhide hW).size
          unfold maxLen at q6
          have i0 : (0 : Int) ≤ (i : Int) := by omega
          have i1 : (i : Int) < (k : Int) := by omega
          obtain ⟨G0, hG0⟩ : ∃ G0 : Nat, Hid (G0 = gk) := ⟨_, rfl⟩
          clear q8 q4 q7 q3 hu
          go_wp2_with fail
          clear l1 l2
          go_loopg [17] 16 (fun gg t17 wr => ∃ (n : Nat), Hid (n + gg = 16) ∧ t17 = .int .i64 (n : Int) ∧ Hid (Below Y.heap.size Y wr))
          case atStart => exact ⟨0, by unfold Hid; omega, rfl, hW⟩
          case round =>
            clear hW
            obtain ⟨n, hn, rfl, hW⟩ := hrel
            have l1 := ((unhide hW).cell (p := ⟨ga, oa + i, none⟩) (unhide HQ3)).trans (unhide HQ4)
            have l2 := Nat.lt_of_lt_of_le (unhide HQ3) (unhide hW).size
            by_cases hlt2 : n < 16
            · have l3 := ((unhide hW).cell (p := ⟨g, o + n * 3 + 0, none⟩) (unhide HQ7)).trans (unhide HQ8 n hlt2 0 _ rfl)
              have l3' : wr.cell? ⟨g, o + n * 3, none⟩ = some (.int .i64 (M i)) := l3
              have l4 := Nat.lt_of_lt_of_le (unhide HQ7) (unhide hW).size
              obtain ⟨M9, hM9⟩ : ∃ M9, Hid (M i = M9) := ⟨_, hide rfl⟩
              have ewM : IntKind.i64.wrap (-1 - (i : Int)) = M9 := by rw [← unhide hM9, unhide hM]
              rw [unhide hM9] at l3'
              have j0 : (0 : Int) ≤ (n : Int) := by omega
              have j1 : (n : Int) < 16 := by omega
              clear l3
              go_wp2_with fail
              go_roundg (gk - 1)
              case measure => have := unhide hn; omega
              case rel => exact ⟨n + 1, by have := unhide hn; unfold Hid; omega, by go_num, hW⟩
            · have hnc : n = 16 := by have := unhide hn; omega
              subst hnc
              go_wp2_with fail
              go_roundg (G0 - 1)
              case measure => have h1 := unhide hG0; have h2 := unhide hi; omega
              case rel => exact ⟨i + 1, by have h1 := unhide hG0; have h2 := unhide hi; unfold Hid; omega, by go_num, hW⟩
        · have hiN : i = k := by have := unhide hi; omega
          subst hiN
          go_wp2_with fail
          have HGA2 := hide ((unhide HGA).mv (G' := G) (Fr.of_below (S := fun _ => False) (unhide hW)) (fun _ _ e => e.elim) (fun _ _ _ => rfl))
          have HLO2 := hide (LO.fr stayCE (unhide HLO) (Fr.of_below (S := fun _ => False) (unhide hW)) (fun _ _ e => e))
          have HFR2 := hide ((unhide HFR).trans (Fr.of_below (S := fun q => ∃ y ∈ cs, blG y q) (unhide hW)))
          clear HGA HLO HFR
          have HGA := HGA2
          have HLO := HLO2
          have HFR := HFR2
          clear HGA2 HLO2 HFR2 hW hi
          obtain ⟨Y, rfl⟩ : ∃ Y, Y = wr := ⟨_, rfl⟩
          have HYI := hide (Below.refl Y.heap.size Y)
          go_loopg [18] NI (fun gg t18 wr => ∃ (i : Nat), Hid (i + gg = NI) ∧ t18 = .int .i64 (i : Int) ∧ Hid (Below Y.heap.size Y wr))
          case atStart => exact ⟨0, by unfold Hid; omega, rfl, HYI⟩
          case round =>
            clear HYI
            obtain ⟨i, hi, rfl, hW⟩ := hrel
            by_cases hlt : i < NI
            · obtain ⟨u, hu⟩ : ∃ u, vI[i]? = some u := ⟨_, List.getElem?_eq_getElem (by rw [unhide hLI]; exact hlt)⟩
              obtain ⟨ga, oa, ac, g, o, c, e, q1, q2, q3, q4, q5, q6, q7, q8⟩ := (unhide HGA).I.cell zIn hu
              rw [unhide hLI] at e q1
              cases e
              have HQ8 := hide q8
              have HQ4 := hide q4
              have HQ7 := hide q7
              have HQ3 := hide q3
              have l1 := ((unhide hW).cell (p := ⟨ga, oa + i, none⟩) q3).trans q4
              have l2 := Nat.lt_of_lt_of_le q3 (unhide hW).size
              unfold maxLen at q6
              have i0 : (0 : Int) ≤ (i : Int) := by omega
              have i1 : (i : Int) < (NI : Int) := by omega
              obtain ⟨G0, hG0⟩ : ∃ G0 : Nat, Hid (G0 = gk) := ⟨_, rfl⟩
              clear q8 q4 q7 q3 hu
              go_wp2_with fail
              clear l1 l2
              go_loopg [19] 16 (fun gg t19 wr => ∃ (n : Nat), Hid (n + gg = 16) ∧ t19 = .int .i64 (n : Int) ∧ Hid (Below Y.heap.size Y wr))
              case atStart => exact ⟨0, by unfold Hid; omega, rfl, hW⟩
              case round =>
                clear hW
                obtain ⟨n, hn, rfl, hW⟩ := hrel
                have l1 := ((unhide hW).cell (p := ⟨ga, oa + i, none⟩) (unhide HQ3)).trans (unhide HQ4)
                have l2 := Nat.lt_of_lt_of_le (unhide HQ3) (unhide hW).size
                by_cases hlt2 : n < 16
                · have l3 := ((unhide hW).cell (p := ⟨g, o + n * 8 + 6, none⟩) (unhide HQ7)).trans (unhide HQ8 n hlt2 6 _ rfl)
                  have l3' : wr.cell? ⟨g, o + n * 8 + 6, none⟩ = some (.int .i64 (M i)) := l3
                  have l4 := Nat.lt_of_lt_of_le (unhide HQ7) (unhide hW).size
                  obtain ⟨M9, hM9⟩ : ∃ M9, Hid (M i = M9) := ⟨_, hide rfl⟩
                  have ewM : IntKind.i64.wrap (-1 - (i : Int)) = M9 := by rw [← unhide hM9, unhide hM]
                  rw [unhide hM9] at l3'
                  have j0 : (0 : Int) ≤ (n : Int) := by omega
                  have j1 : (n : Int) < 16 := by omega
                  clear l3
                  go_wp2_with fail
                  go_roundg (gk - 1)
                  case measure => have := unhide hn; omega
                  case rel => exact ⟨n + 1, by have := unhide hn; unfold Hid; omega, by go_num, hW⟩
                · have hnc : n = 16 := by have := unhide hn; omega
                  subst hnc
                  go_wp2_with fail
                  go_roundg (G0 - 1)
                  case measure => have h1 := unhide hG0; have h2 := unhide hi; omega
                  case rel => exact ⟨i + 1, by have h1 := unhide hG0; have h2 := unhide hi; unfold Hid; omega, by go_num, hW⟩
            · have hiN : i = NI := by have := unhide hi; omega
              subst hiN
              go_wp2_with fail
              have HGA2 := hide ((unhide HGA).mv (G' := G) (Fr.of_below (S := fun _ => False) (unhide hW)) (fun _ _ e => e.elim) (fun _ _ _ => rfl))
              have HLO2 := hide (LO.fr stayCE (unhide HLO) (Fr.of_below (S := fun _ => False) (unhide hW)) (fun _ _ e => e))
              have HFR2 := hide ((unhide HFR).trans (Fr.of_below (S := fun q => ∃ y ∈ cs, blG y q) (unhide hW)))
              clear HGA HLO HFR
              have HGA := HGA2
              have HLO := HLO2
              have HFR := HFR2
              clear HGA2 HLO2 HFR2 hW hi
              obtain ⟨Y, rfl⟩ : ∃ Y, Y = wr := ⟨_, rfl⟩
              have HYE := hide (Below.refl Y.heap.size Y)
              go_loopg [20] NE (fun gg t20 wr => ∃ (i : Nat), Hid (i + gg = NE) ∧ t20 = .int .i64 (i : Int) ∧ Hid (Below Y.heap.size Y wr))
              case atStart => exact ⟨0, by unfold Hid; omega, rfl, HYE⟩
              case round =>
                clear HYE
                obtain ⟨i, hi, rfl, hW⟩ := hrel
                by_cases hlt : i < NE
                · obtain ⟨u, hu⟩ : ∃ u, vE[i]? = some u := ⟨_, List.getElem?_eq_getElem (by rw [unhide hLE]; exact hlt)⟩
                  obtain ⟨ga, oa, ac, g, o, c, e, q1, q2, q3, q4, q5, q6, q7, q8⟩ := (unhide HGA).E.cell zSh hu
                  rw [unhide hLE] at e q1
                  cases e
                  have HQ8 := hide q8
                  have HQ4 := hide q4
                  have HQ7 := hide q7
                  have HQ3 := hide q3
                  have l1 := ((unhide hW).cell (p := ⟨ga, oa + i, none⟩) q3).trans q4
                  have l2 := Nat.lt_of_lt_of_le q3 (unhide hW).size
                  unfold maxLen at q6
                  have i0 : (0 : Int) ≤ (i : Int) := by omega
                  have i1 : (i : Int) < (NE : Int) := by omega
                  obtain ⟨G0, hG0⟩ : ∃ G0 : Nat, Hid (G0 = gk) := ⟨_, rfl⟩
                  clear q8 q4 q7 q3 hu
                  go_wp2_with fail
                  clear l1 l2
                  go_loopg [21] 4 (fun gg t21 wr => ∃ (n : Nat), Hid (n + gg = 4) ∧ t21 = .int .i64 (n : Int) ∧ Hid (Below Y.heap.size Y wr))
                  case atStart => exact ⟨0, by unfold Hid; omega, rfl, hW⟩
                  case round =>
                    clear hW
                    obtain ⟨n, hn, rfl, hW⟩ := hrel
                    have l1 := ((unhide hW).cell (p := ⟨ga, oa + i, none⟩) (unhide HQ3)).trans (unhide HQ4)
                    have l2 := Nat.lt_of_lt_of_le (unhide HQ3) (unhide hW).size
                    by_cases hlt2 : n < 4
                    · have l3 := ((unhide hW).cell (p := ⟨g, o + n * 3 + 0, none⟩) (unhide HQ7)).trans (unhide HQ8 n hlt2 0 _ rfl)
                      have l3' : wr.cell? ⟨g, o + n * 3, none⟩ = some (.int .i64 (M i)) := l3
                      have l4 := Nat.lt_of_lt_of_le (unhide HQ7) (unhide hW).size
                      obtain ⟨M9, hM9⟩ : ∃ M9, Hid (M i = M9) := ⟨_, hide rfl⟩
                      have ewM : IntKind.i64.wrap (-1 - (i : Int)) = M9 := by rw [← unhide hM9, unhide hM]
                      rw [unhide hM9] at l3'
                      have j0 : (0 : Int) ≤ (n : Int) := by omega
                      have j1 : (n : Int) < 4 := by omega
                      clear l3
                      go_wp2_with fail
                      go_roundg (gk - 1)
                      case measure => have := unhide hn; omega
                      case rel => exact ⟨n + 1, by have := unhide hn; unfold Hid; omega, by go_num, hW⟩
                    · have hnc : n = 4 := by have := unhide hn; omega
                      subst hnc
                      go_wp2_with fail
                      go_roundg (G0 - 1)
                      case measure => have h1 := unhide hG0; have h2 := unhide hi; omega
                      case rel => exact ⟨i + 1, by have h1 := unhide hG0; have h2 := unhide hi; unfold Hid; omega, by go_num, hW⟩
                · have hiN : i = NE := by have := unhide hi; omega
                  subst hiN
                  go_wp2_with fail
                  go_ret
                  refine ⟨rfl, LO.fr stayCE (unhide HLO) (Fr.of_below (S := fun _ => False) (unhide hW)) (fun _ _ e => e), (unhide HFR).trans (Fr.of_below (S := fun q => ∃ y ∈ cs, blG y q) (unhide hW))⟩
end Go.Proofs.Ytiamoinhmkhaoaa
