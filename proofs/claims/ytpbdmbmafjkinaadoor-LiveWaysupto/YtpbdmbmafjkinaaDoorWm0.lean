/-
  What wanted holds in memory.
-/
import Derived.Test.YtpbdmbmafjkinaaDoorLd0
namespace Go.Proofs.YtpbdmbmafjkinaaDoor
open Go.RowKit
set_option linter.unusedVariables false
set_option linter.unusedSimpArgs false
/-- Behind k blocks and j ways of the next. -/
structure LdO (bl : List Bk) (Q k j : Nat) (us : List (List Int)) : Prop where
  len : us.length = bl.length
  snd : ∀ (t : Nat) (l : List Int), us[t]? = some l → ∀ x ∈ l, ∃ (b : Nat) (u : Bk), x = (b : Int) ∧ bl[b]? = some u ∧ (t : Int) ∈ u.nx
  cm1 : ∀ (t : Nat) (l : List Int), us[t]? = some l → ∀ (b : Nat) (u : Bk), b < k → bl[b]? = some u → (t : Int) ∈ u.nx → (b : Int) ∈ l
  cm2 : ∀ (t : Nat) (l : List Int), us[t]? = some l → ∀ (u : Bk) (i : Nat), bl[k]? = some u → i < j → u.nx[i]? = some (t : Int) → (k : Int) ∈ l
  bnd : ∀ l ∈ us, l.length ≤ k * Q + j
theorem LdO.zero (bl : List Bk) (Q : Nat) : LdO bl Q 0 0 (List.replicate bl.length []) := by
  refine ⟨by simp, fun t l hl x hx => ?_, fun t l hl b u hb => by omega, fun t l hl u i hu hi => by omega, fun l hl => ?_⟩
  · rw [List.getElem?_replicate] at hl
    split at hl
    · cases hl; cases hx
    · cases hl
  · rw [List.eq_of_mem_replicate hl]; simp
theorem LdO.next {bl : List Bk} {Q k : Nat} {us : List (List Int)} {u : Bk} (hu : bl[k]? = some u) (h : LdO bl Q k u.nx.length us) (hn : u.nx.length ≤ Q) : LdO bl Q (k + 1) 0 us := by
  refine ⟨h.len, h.snd, fun t l hl b u' hb hu' ht => ?_, fun t l hl u' i _ hi => by omega, fun l hl => ?_⟩
  · by_cases e : b = k
    · subst e
      rw [hu] at hu'; cases hu'
      obtain ⟨i, hi, e⟩ := List.getElem_of_mem ht
      exact h.cm2 t l hl u i hu hi (by rw [List.getElem?_eq_getElem hi, e])
    · exact h.cm1 t l hl b u' (by omega) hu' ht
  · have := h.bnd l hl
    rw [Nat.succ_mul]; omega
theorem LdO.skip {bl : List Bk} {Q k j : Nat} {us : List (List Int)} {u : Bk} {x : Int} (hu : bl[k]? = some u) (h : LdO bl Q k j us) (hx : u.nx[j]? = some x) (hn : ¬ (0 ≤ x ∧ x < (bl.length : Int))) : LdO bl Q k (j + 1) us := by
  refine ⟨h.len, h.snd, h.cm1, fun t l hl u' i hu' hi ht => ?_, fun l hl => by have := h.bnd l hl; omega⟩
  by_cases e : i = j
  · subst e
    rw [hu] at hu'; cases hu'
    rw [hx] at ht; cases ht
    have := (List.getElem?_eq_some_iff.1 hl).1
    rw [h.len] at this
    omega
  · exact h.cm2 t l hl u' i hu' (by omega) ht
theorem LdO.put {bl : List Bk} {Q k j t : Nat} {us : List (List Int)} {u : Bk} {l : List Int} (hu : bl[k]? = some u) (h : LdO bl Q k j us) (hx : u.nx[j]? = some (t : Int)) (hl : us[t]? = some l) : LdO bl Q k (j + 1) (us.set t (l ++ [(k : Int)])) := by
  have ht := (List.getElem?_eq_some_iff.1 hl).1
  have key : ∀ (s : Nat) (m : List Int), (us.set t (l ++ [(k : Int)]))[s]? = some m → (s = t ∧ m = l ++ [(k : Int)]) ∨ (s ≠ t ∧ us[s]? = some m) := fun s m hm => by
    by_cases e : s = t
    · subst e; rw [List.getElem?_set_self ht] at hm; cases hm; exact .inl ⟨rfl, rfl⟩
    · rw [List.getElem?_set_ne (fun q => e q.symm)] at hm; exact .inr ⟨e, hm⟩
  refine ⟨by simp [h.len], fun s m hm x hxm => ?_, fun s m hm b u' hb hu' hs => ?_, fun s m hm u' i hu' hi hs => ?_, fun m hm => ?_⟩
  · rcases key s m hm with ⟨rfl, rfl⟩ | ⟨_, q⟩
    · rcases List.mem_append.1 hxm with q | q
      · exact h.snd s l hl x q
      · obtain rfl : x = (k : Int) := by simpa using q
        exact ⟨k, u, rfl, hu, List.mem_of_getElem? hx⟩
    · exact h.snd s m q x hxm
  · rcases key s m hm with ⟨rfl, rfl⟩ | ⟨_, q⟩
    · exact List.mem_append_left _ (h.cm1 s l hl b u' hb hu' hs)
    · exact h.cm1 s m q b u' hb hu' hs
  · rcases key s m hm with ⟨rfl, rfl⟩ | ⟨e, q⟩
    · exact List.mem_append_right _ (by simp)
    · by_cases q2 : i = j
      · subst q2
        rw [hu] at hu'; cases hu'
        rw [hx] at hs; cases hs
        exact absurd rfl e
      · exact h.cm2 s m q u' i hu' (by omega) hs
  · obtain ⟨s, hs, e⟩ := List.getElem_of_mem hm
    rcases key s m (by rw [List.getElem?_eq_getElem hs, e]) with ⟨rfl, rfl⟩ | ⟨_, q⟩
    · have := h.bnd l (List.mem_of_getElem? hl)
      simp; omega
    · have := h.bnd m (List.mem_of_getElem? q)
      omega
set_option maxRecDepth 100000 in
set_option maxHeartbeats 3200000 in
theorem within_yes (k n : Int) (h0 : 0 ≤ k) (h1 : k < n) (w : World) : Calls Tryd.prog 22 #[.int .i64 k, .int .i64 n] w fun e w' => e = .returned (.bool true) ∧ ∃ m, w' = w.drewN m := by
  go_enter Tryd.func22, Tryd.ntmps22
  go_wp2_with fail
  go_ret
  exact ⟨rfl, 0, rfl⟩
set_option maxRecDepth 100000 in
set_option maxHeartbeats 3200000 in
theorem within_no (k n : Int) (h : ¬ (0 ≤ k ∧ k < n)) (w : World) : Calls Tryd.prog 22 #[.int .i64 k, .int .i64 n] w fun e w' => e = .returned (.bool false) ∧ ∃ m, w' = w.drewN m := by
  by_cases i0 : (0 : Int) ≤ k
  · have i1 : ¬ k < n := by omega
    go_enter Tryd.func22, Tryd.ntmps22
    go_wp2_with fail
    go_ret
    exact ⟨rfl, 0, rfl⟩
  · by_cases i1 : k < n
    · go_enter Tryd.func22, Tryd.ntmps22
      go_wp2_with fail
      go_ret
      exact ⟨rfl, 0, rfl⟩
    · go_enter Tryd.func22, Tryd.ntmps22
      go_wp2_with fail
      go_ret
      exact ⟨rfl, 0, rfl⟩
theorem infIC : (Tryd.prog.info? 3).map (fun i => (i.zero, i.size, i.bytes)) = some (some (.int .i64 0), 1, 8) := by kernel_rfl
abbrev LdV (w : World) (N : Nat) : Value := .slice (some ⟨w.heap.size, 0, none⟩) N N
/-- In memory. -/
structure LdW (w : World) (bl : List Bk) (N Q k j : Nat) (X : World) : Prop where
  bel : Below w.heap.size w X
  own : ∃ us xs, LdO bl Q k j us ∧ SL (fun q => w.heap.size ≤ q) X (LdV w N) us xs
theorem LdW.on {w X Y : World} {bl : List Bk} {N Q k j : Nat} (h : LdW w bl N Q k j X) (f : Below X.heap.size X Y) : LdW w bl N Q k j Y := by
  obtain ⟨us, xs, h1, h2⟩ := h.own
  exact ⟨h.bel.trans (f.mono h.bel.size), us, xs, h1, h2.below staysL f⟩
theorem infS37 : (Tryd.prog.info? 25).map (fun i => (i.zero, i.size, i.bytes)) = some (some (.slice none 0 0), 1, 24) := by kernel_rfl
/-- One way more is laid in. -/
theorem LdW.app {w X : World} {bl : List Bk} {N Q k j t : Nat} {u : Bk} (h : LdW w bl N Q k j X) (hN : bl.length = N) (hN2 : N ≤ 1048576) (hQ : Q ≤ 1048576) (hj : j ≤ 1048576) (hk : k ≤ 1048576) (hu : bl[k]? = some u) (hx : u.nx[j]? = some (t : Int)) (ht : t < N) :
    ∃ xa xl xc ya yc w1, X.cell? ⟨w.heap.size, t, none⟩ = some (.slice xa xl xc) ∧ (Builtin.append_ #[25, 25] 25 #[.slice xa xl xc, .slice (some ⟨X.heap.size, 0, none⟩) 1 1]).run Tryd.prog (X.alloc (.cells #[.int .i64 (k : Int)] 3)) = .ok (.slice ya (xl + 1) yc) w1 ∧ w1.cell? ⟨w.heap.size, t, none⟩ = some (.slice xa xl xc) ∧ w1.frozen? ⟨w.heap.size, t, none⟩ = false ∧ LdW w bl N Q k (j + 1) (w1.setCell ⟨w.heap.size, t, none⟩ (.slice ya (xl + 1) yc)) := by
  have hY := h.on (box1n X (.cells #[.int .i64 (k : Int)] 3))
  obtain ⟨us, xs, h1, h2⟩ := hY.own
  have htl : t < us.length := by rw [h1.len, hN]; exact ht
  obtain ⟨l, hl⟩ : ∃ l, us[t]? = some l := ⟨_, List.getElem?_eq_getElem htl⟩
  obtain ⟨x, hxx⟩ : ∃ x, xs[t]? = some x := ⟨_, List.getElem?_eq_getElem (by rw [h2.len]; exact htl)⟩
  have hro : Ro (X.alloc (.cells #[.int .i64 (k : Int)] 3)) 1 x l.length (flt enI l) := h2.el t l x hl hxx
  obtain ⟨xa, xc, rfl, _, _⟩ := hro.shape
  have hbd := h1.bnd l (List.mem_of_getElem? hl)
  have hkq : k * Q ≤ 1099511627776 := Nat.mul_le_mul hk hQ
  obtain ⟨i4, hi4, hz4, hs4, hb4⟩ := info_parts infIC
  obtain ⟨x', w1, hrun, r1, r2, r3⟩ := Ro.app (P := Tryd.prog) 25 25 3 i4 _ 1 8 Tryd.underlying25 hi4 hz4 hs4 hb4 rfl (by decide) hro ⟨X.heap.size, 0, none⟩ 1 1 (enI (k : Int)) rfl (new_cells X _ _) (by simp [enI, Value.oneCell']) (by omega) (by unfold maxLen; omega) (by omega)
  obtain ⟨ya, yc, rfl, _, _⟩ := r1.shape
  have hsz := hY.bel.size
  obtain ⟨o1, o2, o3, o4⟩ := SL.appSet h2 hl hxx r1 r2 r3 (fun z hz => by omega)
  have hc : X.cell? ⟨w.heap.size, t, none⟩ = some (.slice xa l.length xc) := by
    obtain ⟨us0, xs0, g1, g2⟩ := h.own
    have e1 := h2.row
    rw [← h2.len] at e1
    obtain ⟨b, o, c, e, _, _, hbl, hc⟩ := (Rx.of_ro e1).elem zV hxx
    cases e
    have hlt : w.heap.size < X.heap.size := g2.row.lt _ rfl
    have := hc 0 _ rfl
    rw [World.cell?_of_block (Below.heap_alloc X _ _ hlt)] at this
    simpa using this
  exact ⟨xa, _, xc, ya, yc, w1, hc, hrun, o3, o4, hY.bel.trans (o2.below hsz (fun q hq e => by omega)), _, _, h1.put hu hx hl, o1⟩
set_option maxRecDepth 100000 in
set_option maxHeartbeats 6400000 in
theorem leading_any {w : World} {D : Nat → Prop} {bl : List Bk} {v : Value} (h : BksV D w bl v) (hN : bl.length ≤ 1048576) (hx : ∀ u ∈ bl, u.nx.length ≤ 1048576) :
    Calls Tryd.prog 42 #[v] w fun e w' => e = .returned (LdV w bl.length) ∧ LdW w bl bl.length 1048576 bl.length 0 w' := by
  obtain ⟨va, vc, rfl, hv1, hv2⟩ := NV.shape h
  have HV := hide h
  have HX := hide hx
  obtain ⟨N, hNN⟩ : ∃ z, Hid (bl.length = z) := ⟨_, hide rfl⟩
  obtain ⟨Q, HQ⟩ : ∃ Q : Nat, Hid (1048576 ≤ Q ∧ Q ≤ 1048576) := ⟨1048576, hide ⟨Nat.le_refl _, Nat.le_refl _⟩⟩
  have HQE : Hid (Q = 1048576) := by have := unhide HQ; unfold Hid; omega
  have hNm : N ≤ maxLen := by rw [← unhide hNN]; unfold maxLen; omega
  have HLS := SL.start w N hNm
  rw [Nat.mul_one, show (Value.slice none 0 0).cells = #[Value.slice none 0 0] from rfl] at HLS
  have HLS := hide HLS
  rw [unhide hNN] at hN hv1 ⊢
  unfold maxLen at hv2
  have hmk : ∀ W : World, (Instr.makeSlice 31 (.int .i64 (N : Int)) (.int .i64 (N : Int))).run Tryd.prog W = .ok (.slice (some ⟨W.heap.size, 0, none⟩) N N) (W.alloc (.cells (madeCells #[Value.slice none 0 0] N) 25)) := fun W => by
    obtain ⟨i3, hi3, hz3, hs3, hb3⟩ := info_parts infS37
    have := run_make (P := Tryd.prog) W 31 25 i3 _ Tryd.underlying31 hi3 hz3 .i64 .i64 (N : Int) (N : Int) (by omega) (by omega) (by rw [hb3]; omega) (by omega)
    rw [hs3, show (Value.slice none 0 0).cells = #[Value.slice none 0 0] from rfl] at this
    simpa using this
  clear h hx
  have n0 : (0 : Int) ≤ (N : Int) := by omega
  go_enter Tryd.func42, Tryd.ntmps42
  go_wp2_with fail
  obtain ⟨W0, eW⟩ : ∃ W0, Hid ((w.alloc (.cells (madeCells #[Value.slice none 0 0] N) 25)) = W0) := ⟨_, hide rfl⟩
  have HW0 : Hid (LdW w bl N Q 0 0 W0) := by
    have h := unhide HLS
    rw [unhide eW] at h
    exact ⟨by rw [← unhide eW]; exact box1n w _, _, _, by have := LdO.zero bl Q; rw [unhide hNN] at this; exact this, h⟩
  rw [unhide eW]
  clear eW hmk HLS
  go_loopg [13] N (fun gg t13 wr => ∃ k : Nat, Hid (k + gg = N) ∧ t13 = .int .i64 (k : Int) ∧ Hid (LdW w bl N Q k 0 wr))
  case atStart => exact ⟨0, by unfold Hid; omega, rfl, HW0⟩
  case round =>
    clear HW0
    obtain ⟨k, hk, rfl, hG⟩ := hrel
    by_cases hlt : k < N
    · have k0 : (0 : Int) ≤ (k : Int) := by omega
      have k1 : (k : Int) < (N : Int) := by omega
      obtain ⟨u, hu⟩ : ∃ u, bl[k]? = some u := ⟨_, List.getElem?_eq_getElem (by rw [unhide hNN]; exact hlt)⟩
      obtain ⟨b, off, cap, r, e, hb, hDb, hP, hcell⟩ := NV.at zBk (unhide HV) hu
      rw [unhide hNN] at e
      cases e
      obtain ⟨rpc, riv, rnv⟩ := r
      obtain ⟨p1, p2, p3⟩ := hP
      simp only at p1 p2 p3
      subst p1
      obtain ⟨ia, ic, rfl, _, _⟩ := NV.shape p2
      obtain ⟨na, nc, rfl, hn1, hn2⟩ := p3.1.shape
      have hnl := unhide HX u (List.mem_of_getElem? hu)
      have c0 : wr.cell? ⟨b, off + k * 3, none⟩ = some (.int .i64 u.pc) := ((unhide hG).bel.cell (p := ⟨b, off + k * 3, none⟩) hb).trans (hcell 0 _ rfl)
      have c1 : wr.cell? ⟨b, off + k * 3 + 1, none⟩ = some (.slice ia u.ins.length ic) := ((unhide hG).bel.cell (p := ⟨b, off + k * 3 + 1, none⟩) hb).trans (hcell 1 _ rfl)
      have c2 : wr.cell? ⟨b, off + k * 3 + 2, none⟩ = some (.slice na u.nx.length nc) := ((unhide hG).bel.cell (p := ⟨b, off + k * 3 + 2, none⟩) hb).trans (hcell 2 _ rfl)
      have cl : b < wr.heap.size := Nat.lt_of_lt_of_le hb (unhide hG).bel.size
      have HP3 := hide p3
      have HU := hide hu
      obtain ⟨NL, hNL⟩ : ∃ z, Hid (u.nx.length = z) := ⟨_, hide rfl⟩
      obtain ⟨IL, hIL⟩ : ∃ z, Hid (u.ins.length = z) := ⟨_, hide rfl⟩
      rw [unhide hNL] at c2 hn1 hnl
      rw [unhide hIL] at c1
      unfold maxLen at hn2
      obtain ⟨W, hW⟩ : ∃ W, Hid (wr.alloc (.cells #[.int .i64 u.pc, .slice ia IL ic, .slice na NL nc] 47) = W) := ⟨_, hide rfl⟩
      have HW : Hid (LdW w bl N Q k 0 W) := by rw [← unhide hW]; exact (unhide hG).on (box1n wr _)
      have hn := heap_alloc_new wr (.cells #[.int .i64 u.pc, .slice ia IL ic, .slice na NL nc] 47)
      rw [unhide hW] at hn
      have n2 := (blk_cells hn).1 2
      have nl := (blk_cells hn).2.2
      simp at n2
      have hW' := unhide hW
      clear hcell hn p2 p3 hu hG
      go_wp2_with fail
      go_loopg [21] NL (fun gg t21 wr => ∃ i : Nat, Hid (i + gg = NL) ∧ t21 = .int .i64 (i : Int) ∧ Hid (LdW w bl N Q k i wr))
      case atStart => exact ⟨0, by unfold Hid; omega, rfl, HW⟩
      case round =>
        clear HW n2 nl hW' hW c0 c1 c2 cl
        obtain ⟨i, hi, rfl, hG⟩ := hrel
        by_cases hil : i < NL
        · have i0 : (0 : Int) ≤ (i : Int) := by omega
          have i1 : (i : Int) < (NL : Int) := by omega
          obtain ⟨x, hx⟩ : ∃ x, u.nx[i]? = some x := ⟨_, List.getElem?_eq_getElem (by rw [unhide hNL]; exact hil)⟩
          obtain ⟨xb, xo, xcp, e, _, _, hxb, hxc⟩ := (unhide HP3).1.elem zI hx
          rw [unhide hNL] at e
          cases e
          have q0 : wr.cell? ⟨xb, xo + i, none⟩ = some (.int .i64 x) := by
            have := hxc 0 _ rfl
            rw [Nat.mul_one, Nat.add_zero] at this
            exact ((unhide hG).bel.cell (p := ⟨xb, xo + i, none⟩) hxb).trans this
          have ql : xb < wr.heap.size := Nat.lt_of_lt_of_le hxb (unhide hG).bel.size
          clear hxc
          by_cases hr : 0 ≤ x ∧ x < (N : Int)
          · obtain ⟨t, rfl⟩ : ∃ t : Nat, x = (t : Int) := ⟨x.toNat, by omega⟩
            have t0 : (0 : Int) ≤ (t : Int) := hr.1
            have t1 : (t : Int) < (N : Int) := hr.2
            have HX2 := hide hx
            clear hx hr
            go_wp2_with fail
            refine (within_yes _ _ t0 t1 _).mono ?_
            rintro e X ⟨rfl, m, hm⟩
            have hGX : LdW w bl N Q k i X := by rw [hm]; exact (unhide hG).on (bl_drewN wr m)
            obtain ⟨xa, xl, xc, ya, yc, w1, a1, a2, a3, a4, a5⟩ := hGX.app (unhide hNN) hN (unhide HQ).2 (by omega) (by omega) (unhide HU) (unhide HX2) (by omega)
            have HRUN := hide a2
            have HG2 := hide a5
            clear a2 a5 hGX hm hG q0 ql
            go_wp2_with (first | (at_builtin; refine wpList_appRunC rfl _ _ rfl rfl rfl (unhide HRUN) ?_))
            go_roundg (gk - 1)
            case measure => have := unhide hi; omega
            case rel => exact ⟨i + 1, by have := unhide hi; unfold Hid; omega, by go_num, HG2⟩
          · have HX2 := hide hx
            have HR := hide hr
            clear hx hr
            go_wp2_with fail
            refine (within_no _ _ (unhide HR) _).mono ?_
            rintro e X ⟨rfl, m, hm⟩
            have HG2 : Hid (LdW w bl N Q k (i + 1) X) := by
              have hGX : LdW w bl N Q k i X := by rw [hm]; exact (unhide hG).on (bl_drewN wr m)
              obtain ⟨us, xs, h1, h2⟩ := hGX.own
              exact ⟨hGX.bel, us, xs, h1.skip (unhide HU) (unhide HX2) (by rw [unhide hNN]; exact unhide HR), h2⟩
            clear hm hG q0 ql
            go_wp2_with fail
            go_roundg (gk - 1)
            case measure => have := unhide hi; omega
            case rel => exact ⟨i + 1, by have := unhide hi; unfold Hid; omega, by go_num, HG2⟩
        · have hiL : i = NL := by have := unhide hi; omega
          subst hiL
          have i1 : ¬ (i : Int) < (i : Int) := by omega
          have HG2 : Hid (LdW w bl N Q (k + 1) 0 wr) := by
            obtain ⟨us, xs, h1, h2⟩ := (unhide hG).own
            refine ⟨(unhide hG).bel, us, xs, ?_, h2⟩
            rw [← unhide hNL] at h1 hnl
            exact LdO.next (unhide HU) h1 (Nat.le_trans hnl (unhide HQ).1)
          clear hG
          go_wp2_with fail
          go_roundg (N - (k + 1))
          case measure => have := unhide hk; omega
          case rel => exact ⟨k + 1, by have := unhide hk; unfold Hid; omega, by go_num, HG2⟩
    · have hiL : k = N := by have := unhide hk; omega
      subst hiL
      have i1 : ¬ (k : Int) < (k : Int) := by omega
      go_wp2_with fail
      go_ret
      exact ⟨rfl, by have := unhide hG; rw [unhide HQE] at this; exact this⟩

set_option linter.unusedVariables false
set_option linter.unusedSimpArgs false
def enW (A : Wd) : List Value := [.int .u64 (A 0), .int .u64 (A 1), .int .u64 (A 2), .int .u64 (A 3), .int .u64 (A 4), .int .u64 (A 5), .int .u64 (A 6), .int .u64 (A 7)]
theorem zW : ∀ p, (enW p).length = 8 := fun _ => rfl
def enN (n : Nat) : List Value := [.int .i64 (n : Int)]
theorem zN : ∀ p, (enN p).length = 1 := fun _ => rfl
def enBo (b : Bool) : List Value := [.bool b]
theorem zBo : ∀ p, (enBo p).length = 1 := fun _ => rfl
theorem own_eq {b off n c k : Nat} (h : (Value.slice (some ⟨b, off, none⟩) n c).ownBlock = some k) : b = k := by cases h; rfl
structure WM (w : World) (N q lm m : Nat) (us : List (List Int)) (xs : List Value) (lv : Value) (As : List Wd) (wv : Value) (wl : List Nat) (wts : List Bool) (X : World) : Prop where
  bel : Below w.heap.size w X
  ok : ∀ A ∈ As, OkW A
  la : As.length = N
  lw : wts.length = N
  bh : Ro X 8 (.slice (some ⟨q, 0, none⟩) N N) N (flt enW As)
  ld : SL (fun k => q < k ∧ k < lm) X lv us xs
  wt : Ro X 1 (.slice (some ⟨m, 0, none⟩) N N) N (flt enBo wts)
  wk : Ro X 1 wv wl.length (flt enN wl)
  qm : w.heap.size ≤ q ∧ q < lm ∧ lm ≤ m
  wb : ∀ k, wv.ownBlock = some k → lm ≤ k ∧ k ≠ m
section
variable {w X Y : World} {N q lm m : Nat} {us : List (List Int)} {xs : List Value} {lv : Value} {As : List Wd} {wv : Value} {wl : List Nat} {wts : List Bool}
theorem WM.frx {S : Nat → Prop} (h : WM w N q lm m us xs lv As wv wl wts X) (f : Fr S X Y) (hS : ∀ k, S k → lm ≤ k ∧ k ≠ m ∧ wv.ownBlock ≠ some k) : WM w N q lm m us xs lv As wv wl wts Y := by
  have hq := h.qm
  refine ⟨h.bel.trans (f.below h.bel.size (fun k hk e => by have := hS k e; omega)), h.ok, h.la, h.lw, h.bh.fr f (fun k hk e => ?_), h.ld.frZ staysL f (fun k _ hk e => by have := hS k e; omega), h.wt.fr f (fun k hk e => ?_), h.wk.fr f (fun k hk e => (hS k e).2.2 hk), hq, h.wb⟩
  · have hk := own_eq hk; have := hS _ e; omega
  · have hk := own_eq hk; exact (hS _ e).2.1 hk.symm
theorem WM.on (h : WM w N q lm m us xs lv As wv wl wts X) (f : Below X.heap.size X Y) : WM w N q lm m us xs lv As wv wl wts Y :=
  h.frx (Fr.of_below (S := fun _ => False) f) (fun _ e => e.elim)
theorem Ro.cellAt {T : Type} {en : T → List Value} {sz : Nat} (hz : ∀ x, (en x).length = sz) {w : World} {b off N c : Nat} {l : List T} (h : Ro w sz (.slice (some ⟨b, off, none⟩) N c) N (flt en l)) (hl : l.length = N) {k : Nat} {x : T} (hx : l[k]? = some x) :
    b < w.heap.size ∧ ∀ j v, (en x)[j]? = some v → w.cell? ⟨b, off + k * sz + j, none⟩ = some v := by
  subst hl
  obtain ⟨b', off', c', e, _, _, hb, hc⟩ := (Rx.of_ro h).elem hz hx
  cases e
  exact ⟨hb, hc⟩
theorem WM.atA (h : WM w N q lm m us xs lv As wv wl wts X) {k : Nat} {A : Wd} (hA : As[k]? = some A) : q < X.heap.size ∧ X.cell? ⟨q, k * 8, none⟩ = some (.int .u64 (A 0)) ∧ X.cell? ⟨q, k * 8 + 1, none⟩ = some (.int .u64 (A 1)) ∧ X.cell? ⟨q, k * 8 + 2, none⟩ = some (.int .u64 (A 2)) ∧ X.cell? ⟨q, k * 8 + 3, none⟩ = some (.int .u64 (A 3)) ∧ X.cell? ⟨q, k * 8 + 4, none⟩ = some (.int .u64 (A 4)) ∧ X.cell? ⟨q, k * 8 + 5, none⟩ = some (.int .u64 (A 5)) ∧ X.cell? ⟨q, k * 8 + 6, none⟩ = some (.int .u64 (A 6)) ∧ X.cell? ⟨q, k * 8 + 7, none⟩ = some (.int .u64 (A 7)) := by
  obtain ⟨h1, h2⟩ := h.bh.cellAt zW h.la hA
  have e : ∀ j, (⟨q, 0 + k * 8 + j, none⟩ : Addr) = ⟨q, k * 8 + j, none⟩ := fun j => by rw [Nat.zero_add]
  refine ⟨h1, ?_, ?_, ?_, ?_, ?_, ?_, ?_, ?_⟩
  · rw [← Nat.add_zero (k * 8), ← e]; exact h2 0 _ rfl
  · rw [← e]; exact h2 1 _ rfl
  · rw [← e]; exact h2 2 _ rfl
  · rw [← e]; exact h2 3 _ rfl
  · rw [← e]; exact h2 4 _ rfl
  · rw [← e]; exact h2 5 _ rfl
  · rw [← e]; exact h2 6 _ rfl
  · rw [← e]; exact h2 7 _ rfl
theorem WM.frA (h : WM w N q lm m us xs lv As wv wl wts X) (j : Nat) : X.frozen? ⟨q, j, none⟩ = false := h.bh.free rfl j
theorem WM.atT (h : WM w N q lm m us xs lv As wv wl wts X) {k : Nat} {b : Bool} (hb : wts[k]? = some b) : m < X.heap.size ∧ X.cell? ⟨m, k, none⟩ = some (.bool b) ∧ X.frozen? ⟨m, k, none⟩ = false := by
  obtain ⟨h1, h2⟩ := h.wt.cellAt zBo h.lw hb
  refine ⟨h1, ?_, h.wt.free rfl k⟩
  have := h2 0 _ rfl
  simpa using this
theorem WM.atL {lb : Nat} (h : WM w N q lm m us xs (.slice (some ⟨lb, 0, none⟩) N N) As wv wl wts X) {k : Nat} {l : List Int} (hl : us[k]? = some l) : ∃ x, lb < X.heap.size ∧ X.cell? ⟨lb, k, none⟩ = some x ∧ Ro X 1 x l.length (flt enI l) ∧ (∀ z, x.ownBlock = some z → q < z ∧ z < lm) := by
  have hk := (List.getElem?_eq_some_iff.1 hl).1
  obtain ⟨x, hx⟩ : ∃ x, xs[k]? = some x := ⟨_, List.getElem?_eq_getElem (by rw [h.ld.len]; exact hk)⟩
  obtain ⟨_, _, e0, _⟩ := h.ld.row.shape
  have hN : us.length = N := by cases e0; rfl
  have hr := h.ld.row
  rw [hN] at hr
  obtain ⟨h1, h2⟩ := hr.cellAt zV (by rw [h.ld.len, hN]) hx
  refine ⟨x, h1, ?_, h.ld.el k l x hl hx, fun z hz => (h.ld.eb k x z hx hz).1⟩
  have := h2 0 _ rfl
  simpa using this
theorem WM.setT (h : WM w N q lm m us xs lv As wv wl wts X) {k : Nat} (hk : k < N) (b : Bool) : WM w N q lm m us xs lv As wv wl (wts.set k b) (X.setCell ⟨m, k, none⟩ (.bool b)) := by
  obtain ⟨r1, r2⟩ := h.wt.putAt zBo h.lw rfl hk b
  have e2 : X.setCells m (0 + k * 1) (enBo b) = X.setCell ⟨m, k, none⟩ (.bool b) := by simp [enBo, World.setCells]
  rw [e2] at r1 r2
  have hq := h.qm
  refine ⟨h.bel.trans (r2.below h.bel.size (fun z hz e => by omega)), h.ok, h.la, by rw [List.length_set]; exact h.lw, h.bh.fr r2 (fun z hz e => ?_), h.ld.frZ staysL r2 (fun z _ hz e => by omega), r1, h.wk.fr r2 (fun z hz e => (h.wb z hz).2 e), hq, h.wb⟩
  have hz := own_eq hz; omega
theorem WM.setA (h : WM w N q lm m us xs lv As wv wl wts X) {k : Nat} (hk : k < N) {C : Wd} (hC : OkW C) : WM w N q lm m us xs lv (As.set k C) wv wl wts ((((((((X.setCell ⟨q, k * 8, none⟩ (.int .u64 (C 0 : Int))).setCell ⟨q, k * 8 + 1, none⟩ (.int .u64 (C 1 : Int))).setCell ⟨q, k * 8 + 2, none⟩ (.int .u64 (C 2 : Int))).setCell ⟨q, k * 8 + 3, none⟩ (.int .u64 (C 3 : Int))).setCell ⟨q, k * 8 + 4, none⟩ (.int .u64 (C 4 : Int))).setCell ⟨q, k * 8 + 5, none⟩ (.int .u64 (C 5 : Int))).setCell ⟨q, k * 8 + 6, none⟩ (.int .u64 (C 6 : Int))).setCell ⟨q, k * 8 + 7, none⟩ (.int .u64 (C 7 : Int))) := by
  obtain ⟨r1, r2⟩ := h.bh.putAt zW h.la rfl hk C
  have e2 : X.setCells q (0 + k * 8) (enW C) = ((((((((X.setCell ⟨q, k * 8, none⟩ (.int .u64 (C 0 : Int))).setCell ⟨q, k * 8 + 1, none⟩ (.int .u64 (C 1 : Int))).setCell ⟨q, k * 8 + 2, none⟩ (.int .u64 (C 2 : Int))).setCell ⟨q, k * 8 + 3, none⟩ (.int .u64 (C 3 : Int))).setCell ⟨q, k * 8 + 4, none⟩ (.int .u64 (C 4 : Int))).setCell ⟨q, k * 8 + 5, none⟩ (.int .u64 (C 5 : Int))).setCell ⟨q, k * 8 + 6, none⟩ (.int .u64 (C 6 : Int))).setCell ⟨q, k * 8 + 7, none⟩ (.int .u64 (C 7 : Int))) := by simp only [enW, World.setCells, Nat.zero_add, Nat.add_assoc, Nat.reduceAdd]
  rw [e2] at r1 r2
  have hq := h.qm
  refine ⟨h.bel.trans (r2.below h.bel.size (fun z hz e => by omega)), fun A hA => ?_, by rw [List.length_set]; exact h.la, h.lw, r1, h.ld.frZ staysL r2 (fun z _ hz e => by omega), h.wt.fr r2 (fun z hz e => ?_), h.wk.fr r2 (fun z hz e => by have := h.wb z hz; omega), hq, h.wb⟩
  · rcases List.mem_or_eq_of_mem_set hA with q | rfl
    · exact h.ok A q
    · exact hC
  · have hz := own_eq hz; omega
theorem WM.pop {k0 : Nat} {r : List Nat} (h : WM w N q lm m us xs lv As wv (k0 :: r) wts X) : ∃ g off cap o2 c2, wv = .slice (some ⟨g, off, none⟩) (r.length + 1) cap ∧ r.length + 1 ≤ cap ∧ cap ≤ maxLen ∧ g < X.heap.size ∧ X.cell? ⟨g, off, none⟩ = some (.int .i64 (k0 : Int)) ∧ (cap = 1 ∧ o2 = off ∧ c2 = 0 ∧ r.length = 0 ∨ cap ≠ 1 ∧ o2 = off + 1 ∧ c2 = cap - 1) ∧ WM w N q lm m us xs lv As (.slice (some ⟨g, o2, none⟩) r.length c2) r wts X := by
  obtain ⟨g, off, cap, e, h1, h2, h3, h4⟩ := h.wk.full (by simp)
  have h5 := h.wk.past e (k := 1) (by simp)
  have h6 := h4 0 (by simp)
  have e' : wv = .slice (some ⟨g, off, none⟩) (r.length + 1) cap := by rw [e]; simp
  have h1' : r.length + 1 ≤ cap := by simpa using h1
  have h6' : X.cell? ⟨g, off, none⟩ = some (.int .i64 (k0 : Int)) := by simpa [flt, enN] using h6
  by_cases hc : cap = 1
  · have hr : r = [] := List.eq_nil_of_length_eq_zero (by omega)
    subst hr
    refine ⟨g, off, cap, off, 0, e', h1', h2, h3, h6', .inl ⟨hc, rfl, rfl, rfl⟩, h.bel, h.ok, h.la, h.lw, h.bh, h.ld, h.wt, ?_, h.qm, fun z hz => h.wb z (by rw [e]; exact hz)⟩
    obtain ⟨_, q⟩ := h.wk
    refine ⟨by simp [flt], ?_⟩
    rcases q with ⟨q1, q2⟩ | ⟨g', off', cap', arr, t, q1, q2, q3, q4, q5, q6⟩
    · rw [e] at q1; cases q1
    · rw [e] at q1
      cases q1
      exact .inr ⟨g, off, 0, arr, t, rfl, q2, Nat.le_refl _, by unfold maxLen; omega, by omega, fun j hj => by simp at hj⟩
  · refine ⟨g, off, cap, off + 1, cap - 1, e', h1', h2, h3, h6', .inr ⟨hc, rfl, rfl⟩, h.bel, h.ok, h.la, h.lw, h.bh, h.ld, h.wt, ?_, h.qm, fun z hz => h.wb z (by rw [e]; exact hz)⟩
    simpa [flt, enN] using h5
theorem infIC2 : (Tryd.prog.info? 3).map (fun i => (i.zero, i.size, i.bytes)) = some (some (.int .i64 0), 1, 8) := by kernel_rfl
theorem WM.push (h : WM w N q lm m us xs lv As wv wl wts X) (f : Nat) (hl : wl.length ≤ 4294967296) : ∃ va vc ya yc w1, wv = .slice va wl.length vc ∧ (Builtin.append_ #[25, 25] 25 #[.slice va wl.length vc, .slice (some ⟨X.heap.size, 0, none⟩) 1 1]).run Tryd.prog (X.alloc (.cells #[.int .i64 (f : Int)] 3)) = .ok (.slice ya (wl.length + 1) yc) w1 ∧ WM w N q lm m us xs lv As (.slice ya (wl.length + 1) yc) (wl ++ [f]) wts w1 ∧ Fr (fun k => wv.ownBlock = some k) X w1 ∧ ∀ z, (Value.slice ya (wl.length + 1) yc).ownBlock = some z → wv.ownBlock = some z ∨ X.heap.size < z := by
  obtain ⟨va, vc, e, _, _⟩ := h.wk.shape
  have hY := h.on (box1n X (.cells #[.int .i64 (f : Int)] 3))
  obtain ⟨i4, hi4, hz4, hs4, hb4⟩ := info_parts infIC2
  obtain ⟨x', w1, hrun, r1, r2, r3⟩ := Ro.app (P := Tryd.prog) 25 25 3 i4 _ 1 8 Tryd.underlying25 hi4 hz4 hs4 hb4 rfl (by decide) hY.wk ⟨X.heap.size, 0, none⟩ 1 1 (enN f) rfl (new_cells X _ _) (by simp [enN, Value.oneCell']) (by omega) (by unfold maxLen; omega) (by omega)
  obtain ⟨ya, yc, rfl, _, _⟩ := r1.shape
  have hq := h.qm
  have f1 : Fr (fun k => wv.ownBlock = some k) (X.alloc (.cells #[.int .i64 (f : Int)] 3)) w1 := (Fr.refl _ _).grown r2 (fun k e => .inr e)
  have hsz : (X.alloc (.cells #[.int .i64 (f : Int)] 3)).heap.size = X.heap.size + 1 := by simp
  have hml := h.wt.lt m rfl
  have hbl := h.bel.size
  refine ⟨va, vc, ya, yc, w1, e, by rw [← e]; exact hrun, ⟨hY.bel.trans (f1.below hY.bel.size (fun k hk e => by have := h.wb k e; omega)), h.ok, h.la, h.lw, hY.bh.fr f1 (fun k hk e => ?_), hY.ld.frZ staysL f1 (fun k _ hk e => by have := h.wb k e; omega), hY.wt.fr f1 (fun k hk e => ?_), ?_, hq, fun k hk => ?_⟩, (Fr.of_below (box1n X _)).trans f1, fun z hz => ?_⟩
  · have hk := own_eq hk; have := h.wb _ e; omega
  · have hk := own_eq hk; exact (h.wb _ e).2 hk.symm
  · rw [List.length_append, flt_append, flt_one]; exact r1
  · rcases r3 with q | q
    · exact h.wb k (by rw [← q]; exact hk)
    · rw [q] at hk; cases hk; omega
  · rcases r3 with q | q
    · exact .inl (by rw [← q]; exact hz)
    · rw [q] at hz; cases hz; exact .inr (by omega)
end
/-- The sets that rows of words stand for. -/
def Bof (As : List Wd) (b : Nat) : Rset := match As[b]? with | some A => sS A | none => fun _ => false
theorem Bof_at {As : List Wd} {b : Nat} {A : Wd} (h : As[b]? = some A) : Bof As b = sS A := by unfold Bof; rw [h]
theorem Bof_set {As : List Wd} {k : Nat} (hk : k < As.length) (C : Wd) : Bof (As.set k C) = updN (Bof As) k (sS C) := by
  funext b
  unfold Bof updN
  by_cases e : b = k
  · subst e; rw [List.getElem?_set_self hk, if_pos rfl]
  · rw [List.getElem?_set_ne (fun q => e q.symm), if_neg e]
def wtf (wts : List Bool) (n : Nat) : Bool := wts[n]? == some true
theorem wtf_set {wts : List Bool} {k : Nat} (hk : k < wts.length) (b : Bool) : wtf (wts.set k b) = updN (wtf wts) k b := by
  funext n
  unfold wtf updN
  by_cases e : n = k
  · subst e; rw [List.getElem?_set_self hk, if_pos rfl]; cases b <;> rfl
  · rw [List.getElem?_set_ne (fun q => e q.symm), if_neg e]
theorem wtf_at {wts : List Bool} {k : Nat} {b : Bool} (h : wts[k]? = some b) : wtf wts k = b := by unfold wtf; rw [h]; cases b <;> rfl
end Go.Proofs.YtpbdmbmafjkinaaDoor
