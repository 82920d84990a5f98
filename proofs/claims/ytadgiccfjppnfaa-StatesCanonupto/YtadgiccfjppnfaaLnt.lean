/-
  lent: a state in memory of its own, and its rooms.
-/
import Derived.Test.YtadgiccfjppnfaaLni
import Derived.Laws.ResultCell
namespace Go.Proofs.Ytadgiccfjppnfaa
open Go.RowKit
set_option linter.unusedVariables false
set_option linter.unusedSimpArgs false
theorem blk2 (w : World) (o1 o2 : Obj) : ((w.alloc o1).alloc o2).heap[w.heap.size]? = some o1 ∧ ((w.alloc o1).alloc o2).heap[w.heap.size + 1]? = some o2 := by
  refine ⟨?_, ?_⟩
  · rw [Below.heap_alloc _ _ _ (by simp only [World.size_alloc]; omega)]; exact heap_alloc_new w o1
  · have := heap_alloc_new (w.alloc o1) o2
    simpa only [World.size_alloc] using this
theorem upto_room {w : World} {l : List (Int × Int)} {g off n cap : Nat} (h : PR w l (.slice (some ⟨g, off, none⟩) n cap)) : Ro w 2 (.slice (some ⟨g, off, none⟩) l.length cap) l.length (flt enI l) := by
  obtain ⟨_, _, e, _⟩ := h.shape
  cases e
  have := h.upto rfl (k := l.length) (by omega)
  rw [flt_take zI, List.take_left' rfl] at this
  exact this
theorem flat_le : ∀ (l : List (List Fm)) (N : Nat), (∀ b ∈ l, b.length ≤ N) → (l.flatMap (fun b => b.map (·.sl))).length ≤ l.length * N
  | [], N, _ => by simp
  | b :: r, N, h => by
    have h1 := flat_le r N (fun x hx => h x (List.mem_cons_of_mem _ hx))
    have h2 := h b (by simp)
    simp only [List.flatMap_cons, List.length_append, List.length_map, List.length_cons, Nat.add_mul, Nat.one_mul]
    omega
/-- Where a row of one's own is that has something. -/
theorem OW.at {T U : Type} {en : T → List Value} {sz : Nat} {P : World → U → T → Prop} {bl : T → Nat → Prop} {Z : Nat → Prop} {w : World} {a : Option Addr} {n cap : Nat} {us : List U} {xs : List T} (hz : ∀ x, (en x).length = sz) (h : OW en sz P bl Z w (.slice a n cap) us xs) {i : Nat} {u : U} (hu : us[i]? = some u) :
    ∃ g off x, a = some ⟨g, off, none⟩ ∧ n = us.length ∧ xs[i]? = some x ∧ P w u x ∧ g < w.heap.size ∧ (∀ (j : Nat) z, (en x)[j]? = some z → w.cell? ⟨g, off + i * sz + j, none⟩ = some z) ∧ ∀ k, w.frozen? ⟨g, k, none⟩ = false := by
  have hi := (List.getElem?_eq_some_iff.1 hu).1
  have hl := h.len
  obtain ⟨_, _, e2, _⟩ := h.row.shape
  cases e2
  have hx : xs[i]? = some (xs[i]'(by omega)) := List.getElem?_eq_getElem (by omega)
  have hr : Rx w sz (.slice a us.length cap) xs.length (flt en xs) := by rw [hl]; exact Rx.of_ro h.row
  obtain ⟨g, off, cap', e, _, _, hb, hc⟩ := hr.elem hz hx
  injection e with e1 _ _
  subst e1
  exact ⟨g, off, _, rfl, rfl, hx, h.el i u _ hu hx, hb, hc, fun k => h.row.free rfl k⟩
set_option maxRecDepth 100000 in
set_option maxHeartbeats 12800000 in
theorem lent_any {w : World} {v : Value} {s : St} (h : StV w v s) (hs : StB s) : Calls Try.prog 8 #[v] w (LnS w s) := by
  have H1 := hide (fun O1 O2 => copyS_any (h.below (bl_two w O1 O2) (Nat.le_refl _)) hs)
  obtain ⟨ta, tc, oa, oc, ba, bc, rfl, rt, ro, rb, t1, t2, o1, o2, b1, b2⟩ := h.shape
  unfold maxLen at t2 o2 b2
  have HO := hide ro
  have HFb := hide rb
  have HS := hide hs
  have n1 := hs.ol
  have n2 := hs.bl
  obtain ⟨NT, hNT⟩ : ∃ n, Hid (s.texts.length = n) := ⟨_, hide rfl⟩
  obtain ⟨NO, hNO⟩ : ∃ n, Hid (s.objs.length = n) := ⟨_, hide rfl⟩
  obtain ⟨NB, hNB⟩ : ∃ n, Hid (s.fibs.length = n) := ⟨_, hide rfl⟩
  rw [unhide hNT, unhide hNO, unhide hNB] at H1 ⊢
  rw [unhide hNT] at t1
  rw [unhide hNO] at o1 n1 HO
  rw [unhide hNB] at b1 n2 HFb
  clear h rt ro rb hs
  go_enter Try.func8, Try.ntmps8
  go_wp2_with fail
  refine (unhide H1 _ _).mono ?_
  rintro e w1 ⟨tv, ov, bv, xo, xb, C1, C, rfl, ht, htb, hO, hB, hc1, hc2, hc3, hbw⟩
  have hsz2 : w.heap.size + 2 ≤ C1 := by simpa only [World.size_alloc] using hc1
  obtain ⟨ta2, tc2, rfl, _, htm⟩ := ht.shape
  obtain ⟨oa2, oc2, rfl, hol, hom⟩ := hO.row.shape
  obtain ⟨ba2, bc2, rfl, hbl, hbm⟩ := hB.row.shape
  unfold maxLen at htm hom hbm
  obtain ⟨p0, q0⟩ := blk2 w (.cells #[.slice ta NT tc, .slice oa NO oc, .slice ba NB bc, .int .i64 s.cur, .int .i64 s.steps, .int .i64 s.spent, .int .i64 s.read] 26) (.cells #[.slice none 0 0, .slice none 0 0, .slice none 0 0, .int .i64 0, .int .i64 0, .int .i64 0, .int .i64 0] 26)
  have HL0 : Hid (LI w w1.heap.size C1 C s #[.slice ta s.texts.length tc, .slice oa s.objs.length oc, .slice ba s.fibs.length bc, .int .i64 s.cur, .int .i64 s.steps, .int .i64 s.spent, .int .i64 s.read] (.slice ta2 s.texts.length tc2) (.slice oa2 s.objs.length oc2) (.slice ba2 s.fibs.length bc2) (w1.alloc (.cells #[.slice ta2 s.texts.length tc2, .slice oa2 s.objs.length oc2, .slice ba2 s.fibs.length bc2, .int .i64 s.cur, .int .i64 s.steps, .int .i64 s.spent, .int .i64 s.read] 26)) (.slice none 0 0) [] [] xo xb) := by
    have hd : Below w1.heap.size w1 (w1.alloc (.cells #[.slice ta2 s.texts.length tc2, .slice oa2 s.objs.length oc2, .slice ba2 s.fibs.length bc2, .int .i64 s.cur, .int .i64 s.steps, .int .i64 s.spent, .int .i64 s.read] 26)) := (Below.refl _ w1).alloc (Nat.le_refl _) _
    have hs2 : w.heap.size + 2 ≤ w1.heap.size := by omega
    refine ⟨ht.below hd (Nat.le_refl _), fun k hk => ?_, OW.below staysO (hO.mono (fun k _ hz => Or.inl hz)) hd, fun k hk => (hO.rb k hk).2, OW.below staysB (hB.mono (fun k hk hz => Or.inl ⟨hz, hk⟩)) hd, fun k hk => hB.row.lt k hk, fun p hp k hk => ?_, OW.nil _, ?_, ?_, ?_, ?_, by omega, fun x hx p hp k hk e => ?hap0⟩
    · have := htb k hk
      simp only [World.size_alloc] at this
      omega
    · obtain ⟨i, hi, rfl⟩ := List.getElem_of_mem hp
      exact (hB.eb i _ k (List.getElem?_eq_getElem hi) (.inl hk)).2.1
    · exact heap_alloc_new w1 _
    · rw [Below.heap_alloc _ _ _ (by omega), unhide hNT, unhide hNO, unhide hNB]; exact (hbw.block _ (by simp only [World.size_alloc]; omega)).trans p0
    · rw [Below.heap_alloc _ _ _ (by omega)]; exact (hbw.block _ (by simp only [World.size_alloc]; omega)).trans q0
    · exact bl_past (bl_past (bl_two w _ _) hbw) hd
    case hap0 =>
      have a1 := (hO.in (k := k) (.inr ⟨x, hx, hk⟩)).1
      have a2 := (hB.in (k := k) (.inr ⟨p, hp, e⟩)).1
      omega
  rw [unhide hNT, unhide hNO, unhide hNB] at HL0
  rw [unhide hNT, unhide hNO, unhide hNB]
  rw [unhide hNO] at hol
  rw [unhide hNB] at hbl
  clear ht htb hO hB hc1 hc2 hc3 hbw p0 q0 H1
  go_wp2_with fail
  obtain ⟨X, hX⟩ : ∃ X, Hid (w1.heap.size = X) := ⟨_, hide rfl⟩
  rw [unhide hX] at HL0 ⊢
  go_loopg [5, 6] NO (fun g t5 t6 wr => ∃ (i : Nat) (rv : Value) (R : List Value) (xo : List Obv), Hid (i + g = NO) ∧ t5 = rv ∧ t6 = .int .i64 (i : Int) ∧ Hid (LI w X C1 C s #[.slice ta NT tc, .slice oa NO oc, .slice ba NB bc, .int .i64 s.cur, .int .i64 s.steps, .int .i64 s.spent, .int .i64 s.read] (.slice ta2 NT tc2) (.slice oa2 NO oc2) (.slice ba2 NB bc2) wr rv ((s.objs.take i).map (·.its)) R xo xb))
  case atStart => exact ⟨0, _, [], xo, by unfold Hid; omega, rfl, rfl, by simpa using HL0⟩
  case round =>
    obtain ⟨i, rv, R, xo, hi, e5, rfl, hL⟩ := hrel
    obtain rfl := e5.symm
    by_cases hlt : i < NO
    · obtain ⟨ob, ho⟩ : ∃ f, s.objs[i]? = some f := ⟨_, List.getElem?_eq_getElem (by rw [unhide hNO]; exact hlt)⟩
      have hsb := (unhide HS).os ob (List.mem_of_getElem? ho)
      obtain ⟨b, off, ia, ic, ka, kc, ea, hb, k0, k1, k2, k3, k4, k5, hx, hy, hsl, hsm, htl', htm'⟩ := ((unhide HO).below (unhide hL).bw (Nat.le_refl _)).six ho
      cases ea
      obtain ⟨z1, _, _⟩ := blk_cells (unhide hL).xx
      obtain ⟨z2, _, _⟩ := blk_cells (unhide hL).p
      have m1 := z1 1
      have m2 := z2 1
      simp at m1 m2
      have i0 : (0 : Int) ≤ (i : Int) := by omega
      have i1 : (i : Int) < (NO : Int) := by omega
      have HC := hide (lentV_any hx (by have := hsb.1; omega))
      have HOb := hide ho
      obtain ⟨fl, hfl⟩ : ∃ n, Hid (ob.its.length = n) := ⟨_, hide rfl⟩
      rw [unhide hfl] at k1 HC hsl
      have hfb : fl ≤ 1048576 := by have := hsb.1; rw [unhide hfl] at this; exact this
      have hRl : Hid (((s.objs.take i).map (·.its)).length = i) := by simp; rw [unhide hNO]; unfold Hid; omega
      clear hx hy ho z1 z2 k0 k2 k3 k4 k5 hsb
      unfold maxLen at hsm
      go_wp2_with fail
      refine (unhide HC).mono ?_
      rintro e w2 ⟨r, rfl, hG⟩
      obtain ⟨rg, rof, rc, er, r1, r2, _, _⟩ := hG.1.full (by rw [lmV_length]; omega)
      rw [lmV_length, unhide hfl] at er r1
      subst er
      unfold maxLen at r2
      have HG := hide hG
      have HRo : Hid (∀ O, Ro (w2.alloc O) 1 rv i (flt enV R)) := fun O => by
        have := (unhide hL).r.row.fr ((Fr.of_below (S := fun _ => False) hG.2.1).alloc O) (fun _ _ e => e)
        rw [unhide hRl] at this
        exact this
      have HNC := hide (new_cells w2 #[.slice (some ⟨rg, rof, none⟩) (fl + 64) rc] 36)
      have hI3 : i ≤ 3000000000000 := by omega
      clear hG HC
      go_wp2_with (first | (at_builtin; refine appR rfl _ _ rfl _ i R rfl (unhide HRo _) ⟨w2.heap.size, 0, none⟩ 1 (.slice (some ⟨rg, rof, none⟩) (fl + 64) rc) rfl (unhide HNC) rfl hI3 ?_))
      intro rv' w3 hr hg hat
      obtain ⟨hL3, hPR⟩ := (unhide hL).room (unhide HG) hr (by rw [unhide hRl]) hg (by simpa using hat)
      have hold : ∀ (j : Nat) (z : Obv) (k : Nat), xo[j]? = some z → blO z k → k < wr.heap.size := fun j z k hz hk => ((unhide hL).o.eb j z k hz hk).2.1
      obtain ⟨og, oo, x, eo, -, hxo, -, hogl, hoc, hofz⟩ := OW.at zO hL3.o (unhide HOb)
      subst eo
      have hy0 := upto_room hPR
      rw [unhide hfl] at hy0
      have hy1 : Ro w3 2 (.slice (some ⟨rg, rof, none⟩) fl rc) ob.its.length (flt enI ob.its) := by rw [unhide hfl]; exact hy0
      have hL4 := hL3.setO rfl (unhide HOb) hxo hy1 (r := .slice (some ⟨rg, rof, none⟩) (fl + 64) rc) (by simp) rfl (N := wr.heap.size) (fun k hk => (unhide HG).2.2 k hk) hold (fun p hp k hk => ((unhide hL).b.in (.inr ⟨p, hp, hk⟩)).2)
      have HLn : Hid (LI w X C1 C s #[.slice ta NT tc, .slice (some ⟨b, off, none⟩) NO oc, .slice ba NB bc, .int .i64 s.cur, .int .i64 s.steps, .int .i64 s.spent, .int .i64 s.read] (.slice ta2 NT tc2) (.slice (some ⟨og, oo, none⟩) NO oc2) (.slice ba2 NB bc2) (w3.setCell ⟨og, oo + i * 6 + 1, none⟩ (.slice (some ⟨rg, rof, none⟩) fl rc)).drew rv' ((s.objs.take (i + 1)).map (·.its)) (R ++ [.slice (some ⟨rg, rof, none⟩) (fl + 64) rc]) (xo.set i { x with iv := .slice (some ⟨rg, rof, none⟩) fl rc }) xb) := by
        rw [take_push (unhide HOb), List.map_append]
        exact hL4.drew
      have m3 := (blk_cells hL3.xx).1 1
      simp at m3
      have c1 := hoc 1 _ rfl
      have fz := hofz (oo + i * 6 + 1)
      have hXC : og < X := Nat.lt_of_lt_of_le (hL3.ol og rfl) hL3.c.2.2
      have HSB : Hid ((w3.setCell ⟨og, oo + i * 6 + 1, none⟩ (.slice (some ⟨rg, rof, none⟩) fl rc)).drew.cell? ⟨X, 1, none⟩ = some (.slice (some ⟨og, oo, none⟩) NO oc2)) := by
        have := (blk_cells hL4.drew.xx).1 1
        exact hide (by simpa using this)
      have s0 : (0 : Int) ≤ (fl : Int) := by omega
      have s1 : (fl : Int) ≤ (rc : Int) := by omega
      have hb2 := bl_past (unhide HG).2.1 (bl_drew w2)
      clear hr hg hat hL3 hPR hold hoc hofz hy0 hy1 hL4 HRo HNC HG hb2 m1 m2 k1 hb
      go_wp2_with fail
      go_region_held3 (fun w' => w'.cell? ⟨X, 1, none⟩ = some (.slice (some ⟨og, oo, none⟩) NO oc2)) (first | exact unhide HSB | go_keep) (fail)
      go_wp2_with fail
      go_roundg (gk - 1)
      case measure => have := unhide hi; omega
      case rel => exact ⟨i + 1, rv', _, _, by have := unhide hi; unfold Hid; omega, rfl, by go_num, HLn⟩
    · have hiN : NO = i := by have := unhide hi; omega
      subst hiN
      have HL1 : Hid (LI w X C1 C s #[.slice ta NT tc, .slice oa NO oc, .slice ba NB bc, .int .i64 s.cur, .int .i64 s.steps, .int .i64 s.spent, .int .i64 s.read] (.slice ta2 NT tc2) (.slice oa2 NO oc2) (.slice ba2 NB bc2) wr rv (s.objs.map (·.its) ++ (s.fibs.take 0).flatMap (fun b => b.map (·.sl))) R xo xb) := by
        have := unhide hL
        rw [List.take_of_length_le (by rw [unhide hNO]; exact Nat.le_refl _)] at this
        exact hide (by simpa using this)
      have m1 := (blk_cells (unhide hL).xx).1 1
      simp at m1
      clear hL HL0
      go_wp2_with fail
      go_loopg [5, 9] NB (fun g t5 t9 wr => ∃ (j : Nat) (rv : Value) (R : List Value) (xb : List (Value × List Fmv)), Hid (j + g = NB) ∧ t5 = rv ∧ t9 = .int .i64 (j : Int) ∧ Hid (LI w X C1 C s #[.slice ta NT tc, .slice oa NO oc, .slice ba NB bc, .int .i64 s.cur, .int .i64 s.steps, .int .i64 s.spent, .int .i64 s.read] (.slice ta2 NT tc2) (.slice oa2 NO oc2) (.slice ba2 NB bc2) wr rv (s.objs.map (·.its) ++ (s.fibs.take j).flatMap (fun b => b.map (·.sl))) R xo xb))
      case atStart => exact ⟨0, _, R, xb, by unfold Hid; omega, rfl, rfl, HL1⟩
      case round =>
        obtain ⟨j, rv, R, xb, hj, e5, rfl, hL⟩ := hrel
        obtain rfl := e5.symm
        have m2 := (blk_cells (unhide hL).xx).1 2
        simp at m2
        clear HL1
        by_cases hltj : j < NB
        · obtain ⟨fb, hfb⟩ : ∃ f, s.fibs[j]? = some f := ⟨_, List.getElem?_eq_getElem (by rw [unhide hNB]; exact hltj)⟩
          obtain ⟨hfbl, hfbs⟩ := (unhide HS).bs fb (List.mem_of_getElem? hfb)
          obtain ⟨FL, hFL⟩ : ∃ n, Hid (fb.length = n) := ⟨_, hide rfl⟩
          rw [unhide hFL] at hfbl
          have HFS := hide hfbs
          have HFB := hide hfb
          have HBL : Hid (((s.fibs.take j).flatMap (fun b => b.map (·.sl))).length ≤ j * 1048576) := by
            have := flat_le (s.fibs.take j) 1048576 (fun b hb => ((unhide HS).bs b (List.mem_of_mem_take hb)).1)
            have hl : (s.fibs.take j).length ≤ j := by simp; omega
            exact Nat.le_trans this (Nat.mul_le_mul_right _ hl)
          have HLs : Hid (LI w X C1 C s #[.slice ta NT tc, .slice oa NO oc, .slice ba NB bc, .int .i64 s.cur, .int .i64 s.steps, .int .i64 s.spent, .int .i64 s.read] (.slice ta2 NT tc2) (.slice oa2 NO oc2) (.slice ba2 NB bc2) wr rv (s.objs.map (·.its) ++ ((s.fibs.take j).flatMap (fun b => b.map (·.sl)) ++ (fb.take 0).map (·.sl))) R xo xb) := by simpa using hL
          obtain ⟨gO, hgO⟩ : ∃ g, Hid (gk = g) := ⟨_, hide rfl⟩
          have j0 : (0 : Int) ≤ (j : Int) := by omega
          have j1 : (j : Int) < (NB : Int) := by omega
          clear hL hfb hfbs
          go_wp2_with fail
          go_loopg [5, 10] FL (fun g t5 t10 wr => ∃ (k : Nat) (rv : Value) (R : List Value) (xb : List (Value × List Fmv)), Hid (k + g = FL) ∧ t5 = rv ∧ t10 = .int .i64 (k : Int) ∧ Hid (LI w X C1 C s #[.slice ta NT tc, .slice oa NO oc, .slice ba NB bc, .int .i64 s.cur, .int .i64 s.steps, .int .i64 s.spent, .int .i64 s.read] (.slice ta2 NT tc2) (.slice oa2 NO oc2) (.slice ba2 NB bc2) wr rv (s.objs.map (·.its) ++ ((s.fibs.take j).flatMap (fun b => b.map (·.sl)) ++ (fb.take k).map (·.sl))) R xo xb))
          case atStart => exact ⟨0, _, R, xb, by unfold Hid; omega, rfl, rfl, HLs⟩
          case round =>
            obtain ⟨k, rv, R, xb, hk, e5, rfl, hL⟩ := hrel
            obtain rfl := e5.symm
            clear HLs m2
            have m2 := (blk_cells (unhide hL).xx).1 2
            have m3 := (blk_cells (unhide hL).p).1 2
            simp at m2 m3
            obtain ⟨bg, bo, p, eb, -, hxb, hPB, hbgl, hbc, -⟩ := OW.at zB (unhide hL).b (unhide HFB)
            subst eb
            obtain ⟨xv, ys⟩ := p
            have hOM : OM (fun _ => True) wr xv fb ys := hPB
            obtain ⟨fa, fc, rfl, hfc1, hfc2⟩ := hOM.row.shape
            have r0 := hbc 0 _ rfl
            rw [Nat.mul_one, Nat.add_zero, unhide hFL] at r0
            obtain ⟨ib, io, ja, jc, ei, hib, ki, hFs, hjl, hjm⟩ := ((unhide HFb).below (unhide hL).bw (Nat.le_refl _)).one (unhide HFB)
            cases ei
            rw [unhide hFL] at ki hjl hfc1
            unfold maxLen at hjm hfc2
            by_cases hltk : k < FL
            · obtain ⟨f, hf⟩ : ∃ f, fb[k]? = some f := ⟨_, List.getElem?_eq_getElem (by rw [unhide hFL]; exact hltk)⟩
              have hsb := unhide HFS f (List.mem_of_getElem? hf)
              rw [unhide hFL] at hFs hOM
              obtain ⟨sb, so, sa, sc, es, hsbl, k0, k1, k2, hx, hsl, hsm⟩ := hFs.three hf
              cases es
              obtain ⟨fg, fo, x, ef, -, hys, -, hfgl, hfc, hffz⟩ := OW.at zM hOM hf
              subst ef
              have q0 : (0 : Int) ≤ (k : Int) := by omega
              have q1 : (k : Int) < (FL : Int) := by omega
              have HC := hide (lentV_any hx (by omega))
              have HF := hide hf
              obtain ⟨fl, hfl⟩ : ∃ n, Hid (f.sl.length = n) := ⟨_, hide rfl⟩
              rw [unhide hfl] at k2 HC hsl hsb
              obtain ⟨NL, hNL⟩ : ∃ n, Hid ((s.objs.map (·.its) ++ ((s.fibs.take j).flatMap (fun b => b.map (·.sl)) ++ (fb.take k).map (·.sl))).length = n) := ⟨_, hide rfl⟩
              have hNLb : NL ≤ 3000000000000 := by
                have h1 := unhide hNL
                have h2 := unhide HBL
                have h3 := unhide hNO
                have h4 := unhide hFL
                rw [List.length_append, List.length_append, List.length_map, List.length_map, List.length_take] at h1
                omega
              have HX := hide hxb
              have HYS := hide hys
              clear hx hf k0 k1 hbc hPB hOM hFs hxb hys hfc hffz hfgl hbgl
              unfold maxLen at hsm
              go_wp2_with fail
              refine (unhide HC).mono ?_
              rintro e w2 ⟨r, rfl, hG⟩
              obtain ⟨rg, rof, rc, er, r1, r2, _, _⟩ := hG.1.full (by rw [lmV_length]; omega)
              rw [lmV_length, unhide hfl] at er r1
              subst er
              unfold maxLen at r2
              have HG := hide hG
              have HRo : Hid (∀ O, Ro (w2.alloc O) 1 rv NL (flt enV R)) := fun O => by
                have := (unhide hL).r.row.fr ((Fr.of_below (S := fun _ => False) hG.2.1).alloc O) (fun _ _ e => e)
                rw [unhide hNL] at this
                exact this
              have HNC := hide (new_cells w2 #[(.slice (some ⟨rg, rof, none⟩) (fl + 64) rc)] 36)
              clear hG HC
              go_wp2_with (first | (at_builtin; refine appR rfl _ _ rfl _ NL R rfl (unhide HRo _) ⟨w2.heap.size, 0, none⟩ 1 (.slice (some ⟨rg, rof, none⟩) (fl + 64) rc) rfl (unhide HNC) rfl hNLb ?_))
              intro rv' w3 hr hg hat
              obtain ⟨hL3, hPR⟩ := (unhide hL).room (unhide HG) hr (by rw [unhide hNL]) hg (by simpa using hat)
              have hold : ∀ (j : Nat) (z : Value × List Fmv) (k : Nat), xb[j]? = some z → blB z k → k < wr.heap.size := fun j z k hz hk => ((unhide hL).b.eb j z k hz hk).2.1
              have hxb := unhide HX
              have hOM3 : OM (fun _ => True) w3 (.slice (some ⟨fg, fo, none⟩) fb.length fc) fb ys := hL3.b.el j fb _ (unhide HFB) hxb
              obtain ⟨fg', fo', x', ef, -, hys, -, hfgl, hfcc, hffz⟩ := OW.at zM hOM3 (unhide HF)
              cases ef
              have exx : x = x' := Option.some.inj ((unhide HYS).symm.trans hys)
              subst exx
              obtain ⟨bg', bo', p', eb', -, hxb', -, hbgl, hbc, -⟩ := OW.at zB hL3.b (unhide HFB)
              cases eb'
              rw [hxb] at hxb'
              cases hxb'
              have r1' := hbc 0 _ rfl
              rw [Nat.mul_one, Nat.add_zero, unhide hFL] at r1'
              have hy0 := upto_room hPR
              rw [unhide hfl] at hy0
              have hy1 : Ro w3 2 (.slice (some ⟨rg, rof, none⟩) fl rc) f.sl.length (flt enI f.sl) := by rw [unhide hfl]; exact hy0
              have hL4 := hL3.setB (unhide HFB) hxb (unhide HF) (unhide HYS) hy1 (r := (.slice (some ⟨rg, rof, none⟩) (fl + 64) rc)) (by simp) rfl (N := wr.heap.size) (fun k hk => (unhide HG).2.2 k hk) hold (fun x hx k hk => ((unhide hL).o.in (.inr ⟨x, hx, hk⟩)).2)
              have HLn : Hid (LI w X C1 C s #[.slice ta NT tc, .slice oa NO oc, .slice (some ⟨ib, io, none⟩) NB bc, .int .i64 s.cur, .int .i64 s.steps, .int .i64 s.spent, .int .i64 s.read] (.slice ta2 NT tc2) (.slice oa2 NO oc2) (.slice (some ⟨bg, bo, none⟩) NB bc2) (w3.setCell ⟨fg, fo + k * 3 + 2, none⟩ (.slice (some ⟨rg, rof, none⟩) fl rc)).drew rv' (s.objs.map (·.its) ++ ((s.fibs.take j).flatMap (fun b => b.map (·.sl)) ++ (fb.take (k + 1)).map (·.sl))) (R ++ [(.slice (some ⟨rg, rof, none⟩) (fl + 64) rc)]) xo (xb.set j (.slice (some ⟨fg, fo, none⟩) fb.length fc, ys.set k { x with sv := (.slice (some ⟨rg, rof, none⟩) fl rc) }))) := by
                have := hL4.drew
                rw [List.append_assoc, List.append_assoc] at this
                rw [take_push (unhide HF), List.map_append]
                exact this
              have c2 := hfcc 2 _ rfl
              have fz := hffz (fo + k * 3 + 2)
              have m4 := (blk_cells hL3.xx).1 2
              simp at m4
              have hfX : fg < X := hL3.bx _ (List.mem_of_getElem? hxb) fg rfl
              have hbX : bg < X := hL3.bl bg rfl
              have hne : bg ≠ fg := fun e => (hL3.b.eb j _ fg hxb (.inl rfl)).2.2 (by rw [← e]; rfl)
              have HSB : Hid ((w3.setCell ⟨fg, fo + k * 3 + 2, none⟩ (.slice (some ⟨rg, rof, none⟩) fl rc)).drew.cell? ⟨X, 2, none⟩ = some (.slice (some ⟨bg, bo, none⟩) NB bc2) ∧ (w3.setCell ⟨fg, fo + k * 3 + 2, none⟩ (.slice (some ⟨rg, rof, none⟩) fl rc)).drew.cell? ⟨bg, bo + j, none⟩ = some (.slice (some ⟨fg, fo, none⟩) FL fc)) := by
                have a1 := (blk_cells hL4.drew.xx).1 2
                refine ⟨by simpa using a1, ?_⟩
                exact (World.cell?_of_block (Below.heap_setCell _ _ _ _ hne)).trans r1'
              have s0 : (0 : Int) ≤ (fl : Int) := by omega
              have s1 : (fl : Int) ≤ (rc : Int) := by omega
              clear hr hg hat hL3 hPR hold hfcc hffz hbc hy0 hy1 hL4 HRo HNC HG m2 m3 k2 r0 ki hxb hOM3 hys hne HX HYS
              go_wp2_with fail
              go_region_held3 (fun w' => w'.cell? ⟨X, 2, none⟩ = some (.slice (some ⟨bg, bo, none⟩) NB bc2) ∧ w'.cell? ⟨bg, bo + j, none⟩ = some (.slice (some ⟨fg, fo, none⟩) FL fc)) (first | exact unhide HSB | go_keep) (fail)
              go_wp2_with fail
              go_roundg (gk - 1)
              case measure => have := unhide hk; omega
              case rel => exact ⟨k + 1, rv', _, _, by have := unhide hk; unfold Hid; omega, rfl, by go_num, HLn⟩
            · have hkF : FL = k := by have := unhide hk; omega
              subst hkF
              have HLn : Hid (LI w X C1 C s #[.slice ta NT tc, .slice oa NO oc, .slice (some ⟨ib, io, none⟩) NB bc, .int .i64 s.cur, .int .i64 s.steps, .int .i64 s.spent, .int .i64 s.read] (.slice ta2 NT tc2) (.slice oa2 NO oc2) (.slice (some ⟨bg, bo, none⟩) NB bc2) wr rv (s.objs.map (·.its) ++ (s.fibs.take (j + 1)).flatMap (fun b => b.map (·.sl))) R xo xb) := by
                have := unhide hL
                rw [show fb.take FL = fb from List.take_of_length_le (by rw [unhide hFL]; exact Nat.le_refl _)] at this
                rw [take_push (unhide HFB), List.flatMap_append]
                exact hide (by simpa using this)
              clear hL hbc hPB hOM hFs hxb hbgl
              go_wp2_with fail
              go_roundg (gO - 1)
              case measure => have := unhide hj; have := unhide hgO; omega
              case rel => exact ⟨j + 1, rv, R, xb, by have := unhide hj; have := unhide hgO; unfold Hid; omega, rfl, by go_num, HLn⟩
        · have hjN : NB = j := by have := unhide hj; omega
          subst hjN
          have HLn : Hid (LI w X C1 C s #[.slice ta NT tc, .slice oa NO oc, .slice ba NB bc, .int .i64 s.cur, .int .i64 s.steps, .int .i64 s.spent, .int .i64 s.read] (.slice ta2 NT tc2) (.slice oa2 NO oc2) (.slice ba2 NB bc2) wr rv (lists s) R xo xb) := by
            have := unhide hL
            rw [List.take_of_length_le (by rw [unhide hNB]; exact Nat.le_refl _)] at this
            exact this
          obtain ⟨q2, f2, l2⟩ := blk_cells (unhide hL).q
          obtain ⟨q3, _, l3⟩ := blk_cells (unhide hL).xx
          have c0 := q2 0
          have c1 := q2 1
          have c2 := q2 2
          have c3 := q2 3
          have c4 := q2 4
          have c5 := q2 5
          have c6 := q2 6
          have e0 := f2 0
          have e1 := f2 1
          have e2 := f2 2
          have e3 := f2 3
          have e4 := f2 4
          have e5 := f2 5
          have e6 := f2 6
          have d0 := q3 0
          have d1 := q3 1
          have d2 := q3 2
          have d3 := q3 3
          have d4 := q3 4
          have d5 := q3 5
          have d6 := q3 6
          simp at c0 c1 c2 c3 c4 c5 c6 d0 d1 d2 d3 d4 d5 d6
          clear hL q2 q3 f2 m2
          go_wp2_with fail
          refine bodyPost_ret (v := .tuple #[.agg #[.slice ta2 NT tc2, .slice oa2 NO oc2, .slice ba2 NB bc2, .int .i64 s.cur, .int .i64 s.steps, .int .i64 s.spent, .int .i64 s.read], rv]) ?_ rfl ?_
          · rw [results_cell_tmp rfl]
            go_simp
          · have f0 : ∀ W, Fr (fun k => k = w.heap.size + 1) wr W → LnS w s (.returned (.tuple #[.agg #[.slice ta2 NT tc2, .slice oa2 NO oc2, .slice ba2 NB bc2, .int .i64 s.cur, .int .i64 s.steps, .int .i64 s.spent, .int .i64 s.read], rv])) W := fun W hF => ⟨X, C1, C, _, _, _, rv, R, xo, xb, rfl, (unhide HLn).le hF⟩
            apply f0
            repeat (first | refine Fr.setCell ?_ _ (by simp) _ | with_reducible exact Fr.refl _ _)
end Go.Proofs.Ytadgiccfjppnfaa
