/-
  ProgramConstants.
-/
import Derived.Test.YtfaafamdjcojlaaDoorAsks
import Derived.Deep.Cut
namespace Go.Proofs.YtfaafamdjcojlaaDoor
open Go.RowKit
set_option linter.unusedVariables false
set_option linter.unusedSimpArgs false
set_option maxRecDepth 100000
noncomputable section
/-- What is asked of a program that came in, of any size. -/
structure InQ (p : Pg) : Prop where
  nc : p.consts.length ≤ 9000000000000
  okf : ∀ (i : Nat) (f : Fc), p.funcs[i]? = some f → f.code.length ≤ 9000000000000 ∧ f.name.size ≤ 9223372036854775807 ∧ ∀ q ∈ f.code, I64 q.2
  okc : ∀ c ∈ p.consts, OkC c
theorem InP.inq {p : Pg} (h : InP p) : InQ p := ⟨by have := h.nc; omega, fun i f hf => ⟨by have := (h.bd i f hf).1; omega, h.okn i f hf, h.oka i f hf⟩, h.okc⟩
theorem InQ.okp {p : Pg} (h : InQ p) : OkP p := ⟨h.okc, fun i f hf => ⟨(h.okf i f hf).1, (h.okf i f hf).2.1⟩⟩
/-- A right program is small. -/
theorem small_of {p : Pg} (h : ckF p = none) : p.consts.length ≤ 512 ∧ 0 < p.funcs.length ∧ p.funcs.length ≤ 128 ∧ ∀ (i : Nat) (f : Fc), p.funcs[i]? = some f → spB f.name = true ∧ f.name.size ≤ 32 ∧ 0 ≤ f.params ∧ f.params ≤ f.locals ∧ f.locals ≤ 64 ∧ 0 < f.code.length ∧ f.code.length ≤ 2000 ∧ f.hs.length ≤ 32 := by
  obtain ⟨g1, g2, g3, g4⟩ := ckF_none.1 h
  refine ⟨g1.1, g2, g3, fun i f hf => ?_⟩
  obtain ⟨n1, n2, n3, n4⟩ := fnF_none.1 (g4 i f hf)
  obtain ⟨a1, a2, _⟩ := nmF_none.1 n1
  obtain ⟨b1, b2, _, b4, b5, b6⟩ := szF_none.1 n2
  exact ⟨a1, a2, b1, b2, b4, b5, b6, (hsF_none.1 n4).1⟩
theorem fouV_some {p : Pg} {k a y : Int} (h : ckF p = some (k, a, y)) : fouV p y k a = true := by unfold fouV; rw [h]; simp
theorem fouV_none {p : Pg} (h : ckF p = none) : fouV p 0 0 0 = true := by unfold fouV; rw [h]; simp
theorem consts_twice {p : Pg} (h : ckF p = none) {k : Nat} {c : Cn} (hk : p.consts[k]? = some c) (hn : p.consts.length < 512) : ckF { p with consts := p.consts ++ [c] } = some (-1, (p.consts.length : Int), 15) := by
  obtain ⟨g1, g2, g3, g4⟩ := ckF_none.1 h
  have hkl := (List.getElem?_eq_some_iff.1 hk).1
  have hck := g1.2 k c hk
  refine ckF_const (p := { p with consts := p.consts ++ [c] }) (k := p.consts.length) (c := c) (by simp; omega) (by simp) (fun j d hj hd => ?_) ?_ (by decide)
  · have hd' : (p.consts ++ [c])[j]? = some d := hd
    rw [List.getElem?_append_left hj] at hd'
    show conE d ((p.consts ++ [c]).take j) = 0
    rw [List.take_append_of_le_length (by omega)]
    exact g1.2 j d hd'
  · show conE c ((p.consts ++ [c]).take p.consts.length) = 15
    rw [List.take_left]
    have hm : c ∈ p.consts := List.mem_of_getElem? hk
    unfold conE at hck ⊢
    by_cases h1 : rfB c = false
    · rw [if_pos h1] at hck; simp at hck
    · rw [if_neg h1] at hck ⊢
      by_cases h2 : c.text.size > 4096
      · rw [if_pos h2] at hck; simp at hck
      · rw [if_neg h2, if_pos hm]
theorem consts_form {p : Pg} (h : ckF p = none) {k : Nat} {c c' : Cn} (hk : p.consts[k]? = some c) (hb : rfB c' = false) : ckF { p with consts := p.consts.set k c' } = some (-1, (k : Int), 4) := by
  obtain ⟨g1, g2, g3, g4⟩ := ckF_none.1 h
  have hkl := (List.getElem?_eq_some_iff.1 hk).1
  refine ckF_const (p := { p with consts := p.consts.set k c' }) (k := k) (c := c') (by simp; exact g1.1) (by simp [hkl]) (fun j d hj hd => ?_) ?_ (by decide)
  · have hd' : (p.consts.set k c')[j]? = some d := hd
    rw [List.getElem?_set_ne (by omega)] at hd'
    show conE d ((p.consts.set k c').take j) = 0
    rw [take_set (by omega)]
    exact g1.2 j d hd'
  · unfold conE; rw [if_pos hb]
theorem okp_setC {p : Pg} (h : OkP p) {k : Nat} {c : Cn} (hc : OkC c) : OkP { p with consts := p.consts.set k c } :=
  ⟨fun d hd => by
    rcases List.mem_or_eq_of_mem_set (show d ∈ p.consts.set k c from hd) with e | e
    · exact h.1 d e
    · subst e; exact hc, h.2⟩
theorem okp_pushC {p : Pg} (h : OkP p) {c : Cn} (hc : OkC c) : OkP { p with consts := p.consts ++ [c] } :=
  ⟨fun d hd => by
    rcases List.mem_append.1 (show d ∈ p.consts ++ [c] from hd) with e | e
    · exact h.1 d e
    · rw [List.mem_singleton.1 e]; exact hc, h.2⟩
theorem rfB_kind {c : Cn} (h : rfB c = true) : c.kind = 3 ∨ c.kind = 4 := by
  unfold rfB at h
  by_cases h3 : c.kind = 3
  · exact .inl h3
  · rw [if_neg h3] at h
    by_cases h4 : c.kind = 4
    · exact .inr h4
    · rw [if_neg h4] at h; cases h
theorem rfB_of {c : Cn} {l : List Cn} (h : conE c l = 0) : rfB c = true := by
  unfold conE at h
  by_cases h1 : rfB c = false
  · rw [if_pos h1] at h; cases h
  · simpa using h1
theorem rfB_other {c : Cn} (h3 : c.kind ≠ 3) (h4 : c.kind ≠ 4) : rfB c = false := by unfold rfB; rw [if_neg h3, if_neg h4]
theorem rfB_text {c : Cn} (h3 : c.kind = 3) : rfB { c with text := { data := #[120] } } = false := by
  unfold rfB; simp only [h3, if_true]
  rw [show (ByteArray.toList { data := #[120] }).isEmpty = false by rw [ByteArray.toList_eq]; rfl]; rfl
theorem rfB_n {c : Cn} (h4 : c.kind = 4) : rfB { c with n := 1 } = false := by unfold rfB; simp [h4]
theorem rfB_nan : rfB { kind := 3, n := 9218868437227405313, text := ByteArray.empty } = false := by
  unfold rfB; rw [if_pos rfl, show badN 9218868437227405313 = true by decide]; simp
set_option maxHeartbeats 12800000 in
theorem constsLaw {w : World} {v : Value} {p : Pg} (z : Int) (c : Cn) (h : PgV w v p) (hin : InQ p) (hc : OkC c) (hla : Laid w) : Calls Tryd.prog 4 #[v, .int .i64 z, .agg #[.int .i64 c.kind, .int .i64 c.n, .string c.text]] w fun e w' => e = .returned (.bool true) ∧ Below w.heap.size w w' := by
  have HPV := hide h
  have HIN := hide hin
  have HLA := hide hla
  have HOC := hide hc
  obtain ⟨cv0, fv0, rfl, hcc, hf⟩ := h
  obtain ⟨fa, fcp, rfl, hf1, hf2, _⟩ := hf.at
  obtain ⟨_, ca, ccap, rfl, hc1, hc2, _⟩ := hcc
  clear hf hin hla hc
  have hncm := (unhide HIN).nc
  obtain ⟨NC, hNC⟩ : ∃ L, Hid (p.consts.length = L) := ⟨_, rfl⟩
  obtain ⟨NF, hNF⟩ : ∃ L, Hid (p.funcs.length = L) := ⟨_, rfl⟩
  rw [unhide hNC] at HPV hncm ⊢
  rw [unhide hNF] at HPV ⊢
  obtain ⟨W0, hW0⟩ : ∃ x, Hid ((w.alloc (.cells #[.slice ca NC ccap, .slice fa NF fcp] 25)).alloc (.cells #[.int .i64 c.kind, .int .i64 c.n, .string c.text] 39) = x) := ⟨_, rfl⟩
  have hBW : Hid (Below w.heap.size w W0 ∧ W0.heap.size = w.heap.size + 2) := by rw [← unhide hW0]; exact ⟨((Below.refl _ _).alloc (Nat.le_refl _) _).alloc (by simp) _, by simp⟩
  have hP0 : Hid (W0.heap[w.heap.size]? = some (.cells #[.slice ca NC ccap, .slice fa NF fcp] 25 (0, 0)) ∧ W0.heap[w.heap.size + 1]? = some (.cells #[.int .i64 c.kind, .int .i64 c.n, .string c.text] 39 (0, 0))) := by
    rw [← unhide hW0]
    have h1 := heap_alloc_new w (.cells #[.slice ca NC ccap, .slice fa NF fcp] 25)
    have h2 := heap_alloc_new (w.alloc (.cells #[.slice ca NC ccap, .slice fa NF fcp] 25)) (.cells #[.int .i64 c.kind, .int .i64 c.n, .string c.text] 39)
    rw [World.size_alloc] at h2
    exact ⟨(Below.heap_alloc _ _ _ (by simp)).trans h1, h2⟩
  have HF : Hid (∀ wr, Below W0.heap.size W0 wr → wr.cell? ⟨w.heap.size, 0, none⟩ = some (.slice ca NC ccap) ∧ wr.cell? ⟨w.heap.size, 1, none⟩ = some (.slice fa NF fcp) ∧ wr.cell? ⟨w.heap.size + 1, 0, none⟩ = some (.int .i64 c.kind) ∧ wr.cell? ⟨w.heap.size + 1, 1, none⟩ = some (.int .i64 c.n) ∧ wr.cell? ⟨w.heap.size + 1, 2, none⟩ = some (.string c.text) ∧ w.heap.size + 1 < wr.heap.size ∧ PgV wr (.agg #[.slice ca NC ccap, .slice fa NF fcp]) p ∧ Laid wr ∧ Below w.heap.size w wr) := by
    intro wr hb
    obtain ⟨b1, b2⟩ := unhide hBW
    have e0 := (hb.block w.heap.size (by omega)).trans (unhide hP0).1
    have e1 := (hb.block (w.heap.size + 1) (by omega)).trans (unhide hP0).2
    have hw := b1.trans (hb.mono (by omega))
    have := hb.size
    exact ⟨by simp [World.cell?, e0], by simp [World.cell?, e0], by simp [World.cell?, e1], by simp [World.cell?, e1], by simp [World.cell?, e1], by omega, (unhide HPV).below hw (Nat.le_refl _), (unhide HLA).below hw, hw⟩
  have HFI := hide (fun wr (hb : Below W0.heap.size W0 wr) => fit15_any (unhide HF wr hb).2.2.2.2.2.2.1 (unhide HIN).nc (unhide HIN).okf)
  go_enter Tryd.func4, Tryd.ntmps4
  go_wp2_with fail
  rw [unhide hW0]
  refine (unhide HFI W0 (Below.refl _ _)).mono ?_
  rintro e w1 ⟨rfl, hb1⟩
  obtain ⟨p0, p1, _, _, _, pl, _⟩ := unhide HF w1 hb1
  cases hfit : fitV p with
  | false =>
    go_wp2_with fail
    refine (unhide HFI w1 hb1).mono ?_
    rintro e w2 ⟨rfl, hb2⟩
    rw [hfit]
    go_wp2_with fail
    go_ret
    exact ⟨rfl, (unhide HF w2 (hb1.trans (hb2.mono hb1.size))).2.2.2.2.2.2.2.2⟩
  | true =>
    have hgd : ckF p = none := by unfold fitV at hfit; exact Option.isNone_iff_eq_none.1 hfit
    have HGD := hide hgd
    obtain ⟨s1, s2, s3, s4⟩ := small_of hgd
    have HCP := hide (fun wr (hb : Below W0.heap.size W0 wr) => cpP_any (unhide HF wr hb).2.2.2.2.2.2.1 (by omega) (by omega) (fun i f hf => by have := s4 i f hf; omega))
    rw [unhide hNC] at s1
    clear s4 hgd hfit HFI s2 s3
    go_wp2_with fail
    refine (unhide HCP w1 hb1).mono ?_
    rintro e w2 ⟨cv1, fv1, xs1, rfl, hO1, hb2⟩
    have hb02 := hb1.trans (hb2.mono hb1.size)
    clear p0 p1 pl
    obtain ⟨p0, p1, _, _, _, pl, _, hl2, _⟩ := unhide HF w2 hb02
    go_wp2_with fail
    refine (found_any 0 0 0 hO1.pgv (unhide HIN).okp hl2).mono ?_
    rintro e w3 ⟨rfl, hb3⟩
    rw [fouV_none (unhide HGD)]
    have hb03 := hb02.trans (hb3.mono hb02.size)
    clear p0 p1 pl hO1 hl2 hb2 hb1 hb02 hb3
    obtain ⟨p0, p1, _, _, _, pl, _, _, hw3⟩ := unhide HF w3 hb03
    by_cases hz : NC = 0
    · subst hz
      go_wp2_with fail
      go_ret
      exact ⟨rfl, hw3⟩
    · have hz1 : ((NC : Int) == 0) = false := by simp; omega
      by_cases hm : 512 ≤ NC
      · have hm1 : decide ((512 : Int) ≤ (NC : Int)) = true := decide_eq_true (by omega)
        go_wp2_with fail
        go_ret
        exact ⟨rfl, hw3⟩
      · have hm1 : decide ((512 : Int) ≤ (NC : Int)) = false := decide_eq_false (by omega)
        have HPK := hide (pick_any w3 z NC (by omega) (by omega))
        have hpk := pick_lt z (n := NC) (by omega)
        obtain ⟨k, hk⟩ : ∃ k, pick z NC = k := ⟨_, rfl⟩
        rw [hk] at HPK hpk
        go_wp2_with fail
        refine (unhide HPK).mono ?_
        rintro e w3' ⟨rfl, rfl⟩
        go_wp2_with fail
        refine (unhide HCP w3' hb03).mono ?_
        rintro e w4 ⟨cv, fv, xs, rfl, hO4, hb4⟩
        have hzl : p.consts.length = NC := unhide hNC
        obtain ⟨cg, co, cc, rfl, hcap, hcap2, hgl, _⟩ := hO4.co.full (by rw [hzl]; omega)
        obtain ⟨fa4, fc4, rfl, _, _⟩ := hO4.fo.shape
        rw [hzl] at hO4 hcap ⊢
        obtain ⟨c0, hc0⟩ : ∃ c0, p.consts[k]? = some c0 := ⟨_, List.getElem?_eq_getElem (by rw [hzl]; exact hpk)⟩
        obtain ⟨wr, hwr⟩ : ∃ x, Hid (w4.alloc (.cells #[.slice (some ⟨cg, co, none⟩) NC cc, .slice fa4 xs.length fc4] 25) = x) := ⟨_, rfl⟩
        have hb4r : Below w4.heap.size w4 wr := by rw [← unhide hwr]; exact (Below.refl _ _).alloc (Nat.le_refl _) _
        have HBX : Hid (w4.heap.size < wr.heap.size ∧ wr.heap[w4.heap.size]? = some (.cells #[.slice (some ⟨cg, co, none⟩) NC cc, .slice fa4 xs.length fc4] 25 (0, 0))) := by rw [← unhide hwr]; exact ⟨by simp, heap_alloc_new _ _⟩
        have HQI : Hid (¬ inO (.slice (some ⟨cg, co, none⟩) NC cc) (.slice fa4 xs.length fc4) xs w4.heap.size) := fun e => by have := (hO4.ge e).2; omega
        have HO4 := hide (hO4.keep hb4r)
        have HQN : Hid (¬ (Value.slice (some ⟨cg, co, none⟩) NC cc).ownBlock = some w4.heap.size) := fun e => unhide HQI (.inl e)
        have HRo := hide (show Ro wr 3 (.slice (some ⟨cg, co, none⟩) NC cc) NC (flt enC p.consts) by have := (unhide HO4).co; rw [hzl] at this; exact this)
        have hBO : w3'.heap.size ≤ wr.heap.size := by have := hb4.size; have := hb4r.size; omega
        obtain ⟨_, _, _, e, _, _, hgr, hcs⟩ := (Rx.of_ro (show Ro wr 3 (.slice (some ⟨cg, co, none⟩) NC cc) p.consts.length (flt enC p.consts) by rw [hzl]; exact unhide HRo)).elem zC hc0
        rw [hzl] at e
        cases e
        have g0 := hcs 0 _ rfl
        have g1 := hcs 1 _ rfl
        have g2 := hcs 2 _ rfl
        rw [Nat.add_zero] at g0
        clear hcs
        have q0 : wr.cell? ⟨w4.heap.size, 0, none⟩ = some (.slice (some ⟨cg, co, none⟩) NC cc) := by simp [World.cell?, (unhide HBX).2]
        have ql := (unhide HBX).1
        have k0 : (0 : Int) ≤ (k : Int) := by omega
        have k1 : (k : Int) < (NC : Int) := by omega
        go_wp2_with fail
        rw [unhide hwr]
        go_cut [] from 10 (fun wc => ∃ va vcap, Hid (wc.heap[w4.heap.size]? = some (.cells #[.slice va (NC + 1) vcap, .slice fa4 xs.length fc4] 25 (0, 0))) ∧ Hid (OP w3'.heap.size { p with consts := p.consts ++ [c0] } xs (.slice va (NC + 1) vcap) (.slice fa4 xs.length fc4) wc) ∧ Hid (Below W0.heap.size W0 wc) ∧ Hid (∀ b, inO (.slice va (NC + 1) vcap) (.slice fa4 xs.length fc4) xs b → b ≠ w4.heap.size))
        case first =>
          refine wp_region_held_drew (S := fun _ => True) (by kernel_rfl) (trivial) (fun hHeld => ?_)
          refine wpAnyH_take (i := 0) (oi := _) (v := .pointer (some ⟨w4.heap.size, 0, none⟩)) rfl (by kernel_rfl) (by kernel_rfl) (by kernel_rfl) (fun _ _ _ h => h) (Or.inl ⟨by rfl, (by intro w hSw; go_simp)⟩) (by assumption) ?_
          refine wpAnyH_take (i := 2) (oi := _) (v := .pointer (some ⟨w4.heap.size, 0, none⟩)) rfl (by kernel_rfl) (by kernel_rfl) (by kernel_rfl) (fun _ _ _ h => h) (Or.inl ⟨by rfl, (by intro w hSw; go_simp)⟩) (by assumption) ?_
          refine wpAnyH_take (i := 4) (oi := _) (v := .int .i64 (k : Int)) rfl (by kernel_rfl) (by kernel_rfl) (by kernel_rfl) (fun _ _ _ h => h) (Or.inl ⟨by rfl, (by intro w hSw; go_simp)⟩) (by assumption) ?_
          refine wpAnyH_ready (rs := [1, 3]) (by kernel_rfl) (by simp) ?_
          refine AllReadyH.cons (o := _) rfl (fun K hK => ?_) (AllReadyH.cons (o := _) rfl (fun K hK => ?_) AllReadyH.nil)
          · go_simp
            refine hK.out _ _ (trivial) (fun hHeld2 => ?_)
            clear hK K hHeld2
            refine wpAnyH_ready (rs := [3]) (by kernel_rfl) (by simp) ?_
            refine AllReadyH.cons (o := _) rfl (fun K hK => ?_) AllReadyH.nil
            go_simp
            refine hK.out _ _ (trivial) (fun hHeld2 => ?_)
            clear hK K hHeld2
            refine wpAnyH_take (i := 5) (oi := _) (v := .pointer (some ⟨cg, co + k * 3, none⟩)) rfl (by kernel_rfl) (by kernel_rfl) (by kernel_rfl) (fun _ _ _ h => h) (Or.inl ⟨by rfl, (by intro w hSw; go_simp)⟩) (by assumption) ?_
            refine wpAnyH_ready (rs := [6]) (by kernel_rfl) (by simp) ?_
            refine AllReadyH.cons (o := _) rfl (fun K hK => ?_) AllReadyH.nil
            go_simp
            refine hK.out _ _ (trivial) (fun hHeld2 => ?_)
            clear hK K hHeld2
            refine wpAnyH_ready (rs := [7]) (by kernel_rfl) (by simp) ?_
            refine AllReadyH.cons (o := _) rfl (fun K hK => ?_) AllReadyH.nil
            go_simp
            refine hK.out _ _ (trivial) (fun hHeld2 => ?_)
            clear hK K hHeld2
            refine wpAnyH_ready (rs := [8]) (by kernel_rfl) (by simp) ?_
            refine AllReadyH.cons (o := _) rfl (fun K hK => ?_) AllReadyH.nil
            refine step_appC rfl _ _ rfl (.slice (some ⟨cg, co, none⟩) NC cc) p.consts NC (unhide hNC) rfl ((unhide HRo).keep (fun g hg => Below.heap_alloc _ _ _ ((unhide HRo).lt g hg))) ⟨wr.heap.size, 0, none⟩ 1 c0 rfl (by exact new_cells wr _ 39) (by omega) ?_
            intro v' w5 hr5 hg5 hat5
            obtain ⟨va, vcap, rfl, _⟩ := hr5.shape
            have hg5' : (wr.alloc (.cells #[.int .i64 c0.kind, .int .i64 c0.n, .string c0.text] 39)).grownBy w5 (Value.ownBlock _) := ⟨hg5.os, hg5.tape, hg5.output, hg5.size, hg5.block⟩
            have f5 : Fr (fun b => (Value.slice (some ⟨cg, co, none⟩) NC cc).ownBlock = some b) wr w5 := ((Fr.refl _ wr).alloc _).grown hg5' (fun k e => .inr e)
            have hO5 := (unhide HO4).pushC (c := c0) hr5 (by rw [unhide hNC]) f5 (by rcases hat5 with e | e; exact .inl e; exact .inr ⟨_, e, by simp⟩) (by omega)
            have hbx5 := (f5.block w4.heap.size (unhide HBX).1 (unhide HQN)).trans (unhide HBX).2
            have kq : w5.cell? ⟨w4.heap.size, 0, none⟩ = some (.slice (some ⟨cg, co, none⟩) NC cc) := by simp [World.cell?, hbx5]
            have kf : w5.frozen? ⟨w4.heap.size, 0, none⟩ = false := by simp [World.frozen?, hbx5]
            have kl : w4.heap.size < w5.heap.size := (Array.getElem?_eq_some_iff.1 hbx5).1
            have HO5 := hide hO5
            have HF5 := hide f5
            have HBX5 := hide hbx5
            have hqn5 : ∀ b, inO (.slice va (NC + 1) vcap) (.slice fa4 xs.length fc4) xs b → b ≠ w4.heap.size := fun b hb e => by
              subst e
              rcases hb with hb | hb
              · rcases hat5 with e | e
                · exact unhide HQN (e ▸ hb)
                · rw [hb] at e; simp at e; have := (unhide HBX).1; omega
              · exact unhide HQI (.inr hb)
            have HQN5 := hide hqn5
            clear hr5 hg5 hg5' hat5 f5 hO5 hbx5 hqn5
            refine hK.out _ _ (trivial) (fun hHeld2 => ?_)
            clear hK K hHeld2
            refine wpAnyH_take (i := 9) (oi := _) (v := .pointer (some ⟨w4.heap.size, 0, none⟩)) rfl (by kernel_rfl) (by kernel_rfl) (by kernel_rfl) (fun _ _ _ h => h) (Or.inl ⟨by rfl, (by intro w hSw; go_simp)⟩) (by assumption) ?_
            refine wpAnyH_ready (rs := [10]) (by kernel_rfl) (by simp) ?_
            refine AllReadyH.cons (o := _) rfl (fun K hK => ?_) AllReadyH.nil
            go_simp
            refine hK.out _ _ (trivial) (fun hHeld2 => ?_)
            clear hK K hHeld2
            refine wpAnyH_done (by kernel_rfl) ?_ _
            go_wp2_with fail
            go_meet
            case rel =>
              refine ⟨va, vcap, ?_, ?_, ?_, ?_⟩
              · show (w5.setCell ⟨w4.heap.size, 0, none⟩ (.slice va (NC + 1) vcap)).heap[w4.heap.size]? = _
                rw [setCell_block (unhide HBX5)]; rfl
              · exact (unhide HO5).fr ((Fr.refl (fun b => b = w4.heap.size) w5).setCell ⟨w4.heap.size, 0, none⟩ (.inr rfl) _) (fun b hb => unhide HQN5 b hb)
              · have h1 := hb4r.size
                have h2 := (unhide HF5).below (B := W0.heap.size) (by have := hb03.size; have := hb4.size; omega) (fun b hb e => by have := (unhide HO4).cb b e; have := hb03.size; omega)
                have h3 : Below W0.heap.size W0 w5 := ((hb03.trans (hb4.mono hb03.size)).trans (hb4r.mono (by have := hb03.size; have := hb4.size; omega))).trans h2
                exact h3.trans (Fr.below ((Fr.refl (fun b => b = w4.heap.size) w5).setCell ⟨w4.heap.size, 0, none⟩ (.inr rfl) _) h3.size (fun b hb (e : b = w4.heap.size) => by have := hb03.size; have := hb4.size; omega))
              · exact unhide HQN5
          · go_simp
            refine hK.out _ _ (trivial) (fun hHeld2 => ?_)
            clear hK K hHeld2
            refine wpAnyH_take (i := 5) (oi := _) (v := .pointer (some ⟨cg, co + k * 3, none⟩)) rfl (by kernel_rfl) (by kernel_rfl) (by kernel_rfl) (fun _ _ _ h => h) (Or.inl ⟨by rfl, (by intro w hSw; go_simp)⟩) (by assumption) ?_
            refine wpAnyH_ready (rs := [1, 6]) (by kernel_rfl) (by simp) ?_
            refine AllReadyH.cons (o := _) rfl (fun K hK => ?_) (AllReadyH.cons (o := _) rfl (fun K hK => ?_) AllReadyH.nil)
            · go_simp
              refine hK.out _ _ (trivial) (fun hHeld2 => ?_)
              clear hK K hHeld2
              refine wpAnyH_ready (rs := [6]) (by kernel_rfl) (by simp) ?_
              refine AllReadyH.cons (o := _) rfl (fun K hK => ?_) AllReadyH.nil
              go_simp
              refine hK.out _ _ (trivial) (fun hHeld2 => ?_)
              clear hK K hHeld2
              refine wpAnyH_ready (rs := [7]) (by kernel_rfl) (by simp) ?_
              refine AllReadyH.cons (o := _) rfl (fun K hK => ?_) AllReadyH.nil
              go_simp
              refine hK.out _ _ (trivial) (fun hHeld2 => ?_)
              clear hK K hHeld2
              refine wpAnyH_ready (rs := [8]) (by kernel_rfl) (by simp) ?_
              refine AllReadyH.cons (o := _) rfl (fun K hK => ?_) AllReadyH.nil
              refine step_appC rfl _ _ rfl (.slice (some ⟨cg, co, none⟩) NC cc) p.consts NC (unhide hNC) rfl ((unhide HRo).keep (fun g hg => Below.heap_alloc _ _ _ ((unhide HRo).lt g hg))) ⟨wr.heap.size, 0, none⟩ 1 c0 rfl (by exact new_cells wr _ 39) (by omega) ?_
              intro v' w5 hr5 hg5 hat5
              obtain ⟨va, vcap, rfl, _⟩ := hr5.shape
              have hg5' : (wr.alloc (.cells #[.int .i64 c0.kind, .int .i64 c0.n, .string c0.text] 39)).grownBy w5 (Value.ownBlock _) := ⟨hg5.os, hg5.tape, hg5.output, hg5.size, hg5.block⟩
              have f5 : Fr (fun b => (Value.slice (some ⟨cg, co, none⟩) NC cc).ownBlock = some b) wr w5 := ((Fr.refl _ wr).alloc _).grown hg5' (fun k e => .inr e)
              have hO5 := (unhide HO4).pushC (c := c0) hr5 (by rw [unhide hNC]) f5 (by rcases hat5 with e | e; exact .inl e; exact .inr ⟨_, e, by simp⟩) (by omega)
              have hbx5 := (f5.block w4.heap.size (unhide HBX).1 (unhide HQN)).trans (unhide HBX).2
              have kq : w5.cell? ⟨w4.heap.size, 0, none⟩ = some (.slice (some ⟨cg, co, none⟩) NC cc) := by simp [World.cell?, hbx5]
              have kf : w5.frozen? ⟨w4.heap.size, 0, none⟩ = false := by simp [World.frozen?, hbx5]
              have kl : w4.heap.size < w5.heap.size := (Array.getElem?_eq_some_iff.1 hbx5).1
              have HO5 := hide hO5
              have HF5 := hide f5
              have HBX5 := hide hbx5
              have hqn5 : ∀ b, inO (.slice va (NC + 1) vcap) (.slice fa4 xs.length fc4) xs b → b ≠ w4.heap.size := fun b hb e => by
                subst e
                rcases hb with hb | hb
                · rcases hat5 with e | e
                  · exact unhide HQN (e ▸ hb)
                  · rw [hb] at e; simp at e; have := (unhide HBX).1; omega
                · exact unhide HQI (.inr hb)
              have HQN5 := hide hqn5
              clear hr5 hg5 hg5' hat5 f5 hO5 hbx5 hqn5
              refine hK.out _ _ (trivial) (fun hHeld2 => ?_)
              clear hK K hHeld2
              refine wpAnyH_take (i := 9) (oi := _) (v := .pointer (some ⟨w4.heap.size, 0, none⟩)) rfl (by kernel_rfl) (by kernel_rfl) (by kernel_rfl) (fun _ _ _ h => h) (Or.inl ⟨by rfl, (by intro w hSw; go_simp)⟩) (by assumption) ?_
              refine wpAnyH_ready (rs := [10]) (by kernel_rfl) (by simp) ?_
              refine AllReadyH.cons (o := _) rfl (fun K hK => ?_) AllReadyH.nil
              go_simp
              refine hK.out _ _ (trivial) (fun hHeld2 => ?_)
              clear hK K hHeld2
              refine wpAnyH_done (by kernel_rfl) ?_ _
              go_wp2_with fail
              go_meet
              case rel =>
                refine ⟨va, vcap, ?_, ?_, ?_, ?_⟩
                · show (w5.setCell ⟨w4.heap.size, 0, none⟩ (.slice va (NC + 1) vcap)).heap[w4.heap.size]? = _
                  rw [setCell_block (unhide HBX5)]; rfl
                · exact (unhide HO5).fr ((Fr.refl (fun b => b = w4.heap.size) w5).setCell ⟨w4.heap.size, 0, none⟩ (.inr rfl) _) (fun b hb => unhide HQN5 b hb)
                · have h1 := hb4r.size
                  have h2 := (unhide HF5).below (B := W0.heap.size) (by have := hb03.size; have := hb4.size; omega) (fun b hb e => by have := (unhide HO4).cb b e; have := hb03.size; omega)
                  have h3 : Below W0.heap.size W0 w5 := ((hb03.trans (hb4.mono hb03.size)).trans (hb4r.mono (by have := hb03.size; have := hb4.size; omega))).trans h2
                  exact h3.trans (Fr.below ((Fr.refl (fun b => b = w4.heap.size) w5).setCell ⟨w4.heap.size, 0, none⟩ (.inr rfl) _) h3.size (fun b hb (e : b = w4.heap.size) => by have := hb03.size; have := hb4.size; omega))
                · exact unhide HQN5
            · go_simp
              refine hK.out _ _ (trivial) (fun hHeld2 => ?_)
              clear hK K hHeld2
              refine wpAnyH_ready (rs := [1, 7]) (by kernel_rfl) (by simp) ?_
              refine AllReadyH.cons (o := _) rfl (fun K hK => ?_) (AllReadyH.cons (o := _) rfl (fun K hK => ?_) AllReadyH.nil)
              · go_simp
                refine hK.out _ _ (trivial) (fun hHeld2 => ?_)
                clear hK K hHeld2
                refine wpAnyH_ready (rs := [7]) (by kernel_rfl) (by simp) ?_
                refine AllReadyH.cons (o := _) rfl (fun K hK => ?_) AllReadyH.nil
                go_simp
                refine hK.out _ _ (trivial) (fun hHeld2 => ?_)
                clear hK K hHeld2
                refine wpAnyH_ready (rs := [8]) (by kernel_rfl) (by simp) ?_
                refine AllReadyH.cons (o := _) rfl (fun K hK => ?_) AllReadyH.nil
                refine step_appC rfl _ _ rfl (.slice (some ⟨cg, co, none⟩) NC cc) p.consts NC (unhide hNC) rfl ((unhide HRo).keep (fun g hg => Below.heap_alloc _ _ _ ((unhide HRo).lt g hg))) ⟨wr.heap.size, 0, none⟩ 1 c0 rfl (by exact new_cells wr _ 39) (by omega) ?_
                intro v' w5 hr5 hg5 hat5
                obtain ⟨va, vcap, rfl, _⟩ := hr5.shape
                have hg5' : (wr.alloc (.cells #[.int .i64 c0.kind, .int .i64 c0.n, .string c0.text] 39)).grownBy w5 (Value.ownBlock _) := ⟨hg5.os, hg5.tape, hg5.output, hg5.size, hg5.block⟩
                have f5 : Fr (fun b => (Value.slice (some ⟨cg, co, none⟩) NC cc).ownBlock = some b) wr w5 := ((Fr.refl _ wr).alloc _).grown hg5' (fun k e => .inr e)
                have hO5 := (unhide HO4).pushC (c := c0) hr5 (by rw [unhide hNC]) f5 (by rcases hat5 with e | e; exact .inl e; exact .inr ⟨_, e, by simp⟩) (by omega)
                have hbx5 := (f5.block w4.heap.size (unhide HBX).1 (unhide HQN)).trans (unhide HBX).2
                have kq : w5.cell? ⟨w4.heap.size, 0, none⟩ = some (.slice (some ⟨cg, co, none⟩) NC cc) := by simp [World.cell?, hbx5]
                have kf : w5.frozen? ⟨w4.heap.size, 0, none⟩ = false := by simp [World.frozen?, hbx5]
                have kl : w4.heap.size < w5.heap.size := (Array.getElem?_eq_some_iff.1 hbx5).1
                have HO5 := hide hO5
                have HF5 := hide f5
                have HBX5 := hide hbx5
                have hqn5 : ∀ b, inO (.slice va (NC + 1) vcap) (.slice fa4 xs.length fc4) xs b → b ≠ w4.heap.size := fun b hb e => by
                  subst e
                  rcases hb with hb | hb
                  · rcases hat5 with e | e
                    · exact unhide HQN (e ▸ hb)
                    · rw [hb] at e; simp at e; have := (unhide HBX).1; omega
                  · exact unhide HQI (.inr hb)
                have HQN5 := hide hqn5
                clear hr5 hg5 hg5' hat5 f5 hO5 hbx5 hqn5
                refine hK.out _ _ (trivial) (fun hHeld2 => ?_)
                clear hK K hHeld2
                refine wpAnyH_take (i := 9) (oi := _) (v := .pointer (some ⟨w4.heap.size, 0, none⟩)) rfl (by kernel_rfl) (by kernel_rfl) (by kernel_rfl) (fun _ _ _ h => h) (Or.inl ⟨by rfl, (by intro w hSw; go_simp)⟩) (by assumption) ?_
                refine wpAnyH_ready (rs := [10]) (by kernel_rfl) (by simp) ?_
                refine AllReadyH.cons (o := _) rfl (fun K hK => ?_) AllReadyH.nil
                go_simp
                refine hK.out _ _ (trivial) (fun hHeld2 => ?_)
                clear hK K hHeld2
                refine wpAnyH_done (by kernel_rfl) ?_ _
                go_wp2_with fail
                go_meet
                case rel =>
                  refine ⟨va, vcap, ?_, ?_, ?_, ?_⟩
                  · show (w5.setCell ⟨w4.heap.size, 0, none⟩ (.slice va (NC + 1) vcap)).heap[w4.heap.size]? = _
                    rw [setCell_block (unhide HBX5)]; rfl
                  · exact (unhide HO5).fr ((Fr.refl (fun b => b = w4.heap.size) w5).setCell ⟨w4.heap.size, 0, none⟩ (.inr rfl) _) (fun b hb => unhide HQN5 b hb)
                  · have h1 := hb4r.size
                    have h2 := (unhide HF5).below (B := W0.heap.size) (by have := hb03.size; have := hb4.size; omega) (fun b hb e => by have := (unhide HO4).cb b e; have := hb03.size; omega)
                    have h3 : Below W0.heap.size W0 w5 := ((hb03.trans (hb4.mono hb03.size)).trans (hb4r.mono (by have := hb03.size; have := hb4.size; omega))).trans h2
                    exact h3.trans (Fr.below ((Fr.refl (fun b => b = w4.heap.size) w5).setCell ⟨w4.heap.size, 0, none⟩ (.inr rfl) _) h3.size (fun b hb (e : b = w4.heap.size) => by have := hb03.size; have := hb4.size; omega))
                  · exact unhide HQN5
              · go_simp
                refine hK.out _ _ (trivial) (fun hHeld2 => ?_)
                clear hK K hHeld2
                refine wpAnyH_ready (rs := [1]) (by kernel_rfl) (by simp) ?_
                refine AllReadyH.cons (o := _) rfl (fun K hK => ?_) AllReadyH.nil
                go_simp
                refine hK.out _ _ (trivial) (fun hHeld2 => ?_)
                clear hK K hHeld2
                refine wpAnyH_ready (rs := [8]) (by kernel_rfl) (by simp) ?_
                refine AllReadyH.cons (o := _) rfl (fun K hK => ?_) AllReadyH.nil
                refine step_appC rfl _ _ rfl (.slice (some ⟨cg, co, none⟩) NC cc) p.consts NC (unhide hNC) rfl ((unhide HRo).keep (fun g hg => Below.heap_alloc _ _ _ ((unhide HRo).lt g hg))) ⟨wr.heap.size, 0, none⟩ 1 c0 rfl (by exact new_cells wr _ 39) (by omega) ?_
                intro v' w5 hr5 hg5 hat5
                obtain ⟨va, vcap, rfl, _⟩ := hr5.shape
                have hg5' : (wr.alloc (.cells #[.int .i64 c0.kind, .int .i64 c0.n, .string c0.text] 39)).grownBy w5 (Value.ownBlock _) := ⟨hg5.os, hg5.tape, hg5.output, hg5.size, hg5.block⟩
                have f5 : Fr (fun b => (Value.slice (some ⟨cg, co, none⟩) NC cc).ownBlock = some b) wr w5 := ((Fr.refl _ wr).alloc _).grown hg5' (fun k e => .inr e)
                have hO5 := (unhide HO4).pushC (c := c0) hr5 (by rw [unhide hNC]) f5 (by rcases hat5 with e | e; exact .inl e; exact .inr ⟨_, e, by simp⟩) (by omega)
                have hbx5 := (f5.block w4.heap.size (unhide HBX).1 (unhide HQN)).trans (unhide HBX).2
                have kq : w5.cell? ⟨w4.heap.size, 0, none⟩ = some (.slice (some ⟨cg, co, none⟩) NC cc) := by simp [World.cell?, hbx5]
                have kf : w5.frozen? ⟨w4.heap.size, 0, none⟩ = false := by simp [World.frozen?, hbx5]
                have kl : w4.heap.size < w5.heap.size := (Array.getElem?_eq_some_iff.1 hbx5).1
                have HO5 := hide hO5
                have HF5 := hide f5
                have HBX5 := hide hbx5
                have hqn5 : ∀ b, inO (.slice va (NC + 1) vcap) (.slice fa4 xs.length fc4) xs b → b ≠ w4.heap.size := fun b hb e => by
                  subst e
                  rcases hb with hb | hb
                  · rcases hat5 with e | e
                    · exact unhide HQN (e ▸ hb)
                    · rw [hb] at e; simp at e; have := (unhide HBX).1; omega
                  · exact unhide HQI (.inr hb)
                have HQN5 := hide hqn5
                clear hr5 hg5 hg5' hat5 f5 hO5 hbx5 hqn5
                refine hK.out _ _ (trivial) (fun hHeld2 => ?_)
                clear hK K hHeld2
                refine wpAnyH_take (i := 9) (oi := _) (v := .pointer (some ⟨w4.heap.size, 0, none⟩)) rfl (by kernel_rfl) (by kernel_rfl) (by kernel_rfl) (fun _ _ _ h => h) (Or.inl ⟨by rfl, (by intro w hSw; go_simp)⟩) (by assumption) ?_
                refine wpAnyH_ready (rs := [10]) (by kernel_rfl) (by simp) ?_
                refine AllReadyH.cons (o := _) rfl (fun K hK => ?_) AllReadyH.nil
                go_simp
                refine hK.out _ _ (trivial) (fun hHeld2 => ?_)
                clear hK K hHeld2
                refine wpAnyH_done (by kernel_rfl) ?_ _
                go_wp2_with fail
                go_meet
                case rel =>
                  refine ⟨va, vcap, ?_, ?_, ?_, ?_⟩
                  · show (w5.setCell ⟨w4.heap.size, 0, none⟩ (.slice va (NC + 1) vcap)).heap[w4.heap.size]? = _
                    rw [setCell_block (unhide HBX5)]; rfl
                  · exact (unhide HO5).fr ((Fr.refl (fun b => b = w4.heap.size) w5).setCell ⟨w4.heap.size, 0, none⟩ (.inr rfl) _) (fun b hb => unhide HQN5 b hb)
                  · have h1 := hb4r.size
                    have h2 := (unhide HF5).below (B := W0.heap.size) (by have := hb03.size; have := hb4.size; omega) (fun b hb e => by have := (unhide HO4).cb b e; have := hb03.size; omega)
                    have h3 : Below W0.heap.size W0 w5 := ((hb03.trans (hb4.mono hb03.size)).trans (hb4r.mono (by have := hb03.size; have := hb4.size; omega))).trans h2
                    exact h3.trans (Fr.below ((Fr.refl (fun b => b = w4.heap.size) w5).setCell ⟨w4.heap.size, 0, none⟩ (.inr rfl) _) h3.size (fun b hb (e : b = w4.heap.size) => by have := hb03.size; have := hb4.size; omega))
                  · exact unhide HQN5
        case rest =>
          obtain ⟨va, vcap, HB5, HO5, HW5, HQ5⟩ := hcut
          have hl5 := (unhide HF wc (unhide HW5)).2.2.2.2.2.2.2.1
          have q0' : wc.cell? ⟨w4.heap.size, 0, none⟩ = some (.slice va (NC + 1) vcap) := by simp [World.cell?, unhide HB5]
          have q1' : wc.cell? ⟨w4.heap.size, 1, none⟩ = some (.slice fa4 xs.length fc4) := by simp [World.cell?, unhide HB5]
          have HQL : Hid (w4.heap.size < wc.heap.size) := (Array.getElem?_eq_some_iff.1 (unhide HB5)).1
          have hql' := unhide HQL
          have HFO := hide (found_any 15 (-1) (NC : Int) (unhide HO5).pgv (okp_pushC (unhide HIN).okp ((unhide HIN).okp.1 c0 (List.mem_of_getElem? hc0))) hl5)
          rw [fouV_some (by have := consts_twice (unhide HGD) hc0 (by rw [hzl]; omega); rw [hzl] at this; exact this)] at HFO
          have hQW : w.heap.size + 1 < w4.heap.size := by have := hb4.size; omega
          have HQW := hide hQW
          have HC0 := hide hc0
          clear q0 ql g0 g1 g2 hgr hgl hl5 HRo HQN HO4 HQI HBX hb4r hwr hO4 hb4 p0 p1 pl hc0
          go_wp2_with fail
          refine (unhide HFO).mono ?_
          clear HFO
          rintro e w7 ⟨rfl, hb7⟩
          have hb07 := (unhide HW5).trans (hb7.mono (unhide HW5).size)
          obtain ⟨p0, p1, _, _, _, pl, _⟩ := unhide HF w7 hb07
          clear q0' q1' hql'
          go_wp2_with fail
          refine (unhide HCP w7 hb07).mono ?_
          rintro e w8 ⟨cv2, fv2, xs2, rfl, hO8, hb8⟩
          obtain ⟨cg2, co2, cc2, rfl, hcap3, hcap4, hgl2, _⟩ := hO8.co.full (by rw [hzl]; omega)
          obtain ⟨fa8, fc8, rfl, _, _⟩ := hO8.fo.shape
          rw [hzl] at hO8 hcap3 ⊢
          have hbx8 := (hb8.block _ (Nat.lt_of_lt_of_le (unhide HQL) hb7.size)).trans ((hb7.block _ (unhide HQL)).trans (unhide HB5))
          have u0 : w8.cell? ⟨w4.heap.size, 0, none⟩ = some (.slice va (NC + 1) vcap) := by simp [World.cell?, hbx8]
          have u1 : w8.cell? ⟨w4.heap.size, 1, none⟩ = some (.slice fa4 xs.length fc4) := by simp [World.cell?, hbx8]
          have uf0 : w8.frozen? ⟨w4.heap.size, 0, none⟩ = false := by simp [World.frozen?, hbx8]
          have uf1 : w8.frozen? ⟨w4.heap.size, 1, none⟩ = false := by simp [World.frozen?, hbx8]
          have ul : w4.heap.size < w8.heap.size := (Array.getElem?_eq_some_iff.1 hbx8).1
          obtain ⟨W8, hW8⟩ : ∃ x, Hid ((w8.setCell ⟨w4.heap.size, 0, none⟩ (.slice (some ⟨cg2, co2, none⟩) NC cc2)).setCell ⟨w4.heap.size, 1, none⟩ (.slice fa8 xs2.length fc8) = x) := ⟨_, rfl⟩
          have hF8 : Fr (fun b => b = w4.heap.size) w8 W8 := by rw [← unhide hW8]; exact ((Fr.refl (fun b => b = w4.heap.size) w8).setCell ⟨w4.heap.size, 0, none⟩ (.inr rfl) _).setCell ⟨w4.heap.size, 1, none⟩ (.inr rfl) _
          have hB8 : W8.heap[w4.heap.size]? = some (.cells #[.slice (some ⟨cg2, co2, none⟩) NC cc2, .slice fa8 xs2.length fc8] 25 (0, 0)) := by
            rw [← unhide hW8, setCell_block (setCell_block hbx8 _)]; rfl
          have hq78 : w4.heap.size < w7.heap.size := Nat.lt_of_lt_of_le (unhide HQL) hb7.size
          have HO8 := hide (hO8.fr hF8 (fun b hb (e : b = w4.heap.size) => by have := (hO8.ge hb).1; omega))
          have HNQ : Hid (∀ b, inO (.slice (some ⟨cg2, co2, none⟩) NC cc2) (.slice fa8 xs2.length fc8) xs2 b → b ≠ w4.heap.size ∧ W0.heap.size ≤ b) := fun b hb => by have := (hO8.ge hb).1; have := hb07.size; exact ⟨by omega, by omega⟩
          have h08 : Below W0.heap.size W0 W8 := (hb07.trans (hb8.mono hb07.size)).trans (hF8.below (by have := hb07.size; have := hb8.size; omega) (fun b hb (e : b = w4.heap.size) => by have := (unhide hBW).2; have := unhide HQW; omega))
          have H08 := hide h08
          clear hF8 hb8 hb7 hb07 hbx8 hO8 HO5 HB5 HW5 HQ5
          go_upto_region 12 with fail
          rw [unhide hW8]
          obtain ⟨_, _, r0, r1, r2, rl, _, hl8, hw8⟩ := unhide HF W8 h08
          clear u0 u1 uf0 uf1 ul p0 p1 pl
          have x0 : W8.cell? ⟨w4.heap.size, 0, none⟩ = some (.slice (some ⟨cg2, co2, none⟩) NC cc2) := by simp [World.cell?, hB8]
          have x1 : W8.cell? ⟨w4.heap.size, 1, none⟩ = some (.slice fa8 xs2.length fc8) := by simp [World.cell?, hB8]
          have xl : w4.heap.size < W8.heap.size := (Array.getElem?_eq_some_iff.1 hB8).1
          have hRo8 : Ro W8 3 (.slice (some ⟨cg2, co2, none⟩) NC cc2) p.consts.length (flt enC p.consts) := (unhide HO8).co
          have hfz8 : ∀ o, W8.frozen? ⟨cg2, o, none⟩ = false := fun o => by have := (unhide HO8).co; rw [hzl] at this; exact this.free rfl o
          have yf0 := hfz8 (co2 + k * 3)
          have yf1 := hfz8 (co2 + k * 3 + 1)
          have yf2 := hfz8 (co2 + k * 3 + 2)
          obtain ⟨_, _, _, e, _, _, hgr, hcs⟩ := (Rx.of_ro hRo8).elem zC (unhide HC0)
          rw [hzl] at e
          cases e
          have m0 := hcs 0 _ rfl
          have m1 := hcs 1 _ rfl
          have m2 := hcs 2 _ rfl
          rw [Nat.add_zero] at m0
          have hgq : cg2 ≠ w4.heap.size := (unhide HNQ cg2 (.inl rfl)).1
          have hgl8 : cg2 < W8.heap.size := hgr
          -- what comes behind a store into constant k
          have HST : Hid (∀ (wx : World) (d : Cn), Fr (fun b => b = cg2) W8 wx → OkC d → rfB d = false → OP w7.heap.size { p with consts := p.consts.set k d } xs2 (.slice (some ⟨cg2, co2, none⟩) NC cc2) (.slice fa8 xs2.length fc8) wx → Calls Tryd.prog 16 #[.agg #[.slice (some ⟨cg2, co2, none⟩) NC cc2, .slice fa8 xs2.length fc8], .int .i64 4, .int .i64 (-1), .int .i64 (k : Int)] wx fun ev w' => ev = .returned (.bool true) ∧ Below wx.heap.size wx w' ∧ Below w.heap.size w w') := by
            intro wx d hf hd hr ho
            have hbw := (unhide H08).trans (hf.below (unhide H08).size (fun b hb (e : b = cg2) => by have := (unhide HNQ cg2 (.inl rfl)).2; omega))
            have := found_any 4 (-1) (k : Int) ho.pgv (okp_setC (unhide HIN).okp hd) (unhide HF wx hbw).2.2.2.2.2.2.2.1
            rw [fouV_some (consts_form (unhide HGD) (unhide HC0) hr)] at this
            refine this.mono fun ev w' ⟨e1, e2⟩ => ⟨e1, e2, ?_⟩
            exact (unhide HF wx hbw).2.2.2.2.2.2.2.2.trans (e2.mono (unhide HF wx hbw).2.2.2.2.2.2.2.2.size)
          have hokc0 := (unhide HIN).okc c0 (List.mem_of_getElem? (unhide HC0))
          have hrf0 : rfB c0 = true := rfB_of ((ckF_none.1 (unhide HGD)).1.2 k c0 (unhide HC0))
          have HM1 := hide m1
          have HM2 := hide m2
          clear hRo8 hcs hfz8
          by_cases hkk : c.kind ≠ 3 ∧ c.kind ≠ 4
          · have t3 : (c.kind == 3) = false := by simpa using hkk.1
            have t4 : (c.kind == 4) = false := by simpa using hkk.2
            have n3 : (c.kind != 3) = true := by simp [bne, t3]
            have n4 : (c.kind != 4) = true := by simp [bne, t4]
            have HS := hide (unhide HST ((((W8.setCell ⟨cg2, co2 + k * 3, none⟩ (.int .i64 c.kind)).setCell ⟨cg2, co2 + k * 3 + 1, none⟩ (.int .i64 c.n)).setCell ⟨cg2, co2 + k * 3 + 2, none⟩ (.string c.text))) c ((((Fr.refl (fun b => b = cg2) W8).setCell ⟨cg2, co2 + k * 3, none⟩ (.inr rfl) _).setCell ⟨cg2, co2 + k * 3 + 1, none⟩ (.inr rfl) _).setCell ⟨cg2, co2 + k * 3 + 2, none⟩ (.inr rfl) _) (unhide HOC) (rfB_other hkk.1 hkk.2)
              ((unhide HO8).setC (c' := c) (vs := enC c) (j := 0) rfl (unhide HC0) (by simp [enC]) (fun i hi => by rw [if_pos (by simp [enC]; omega)]; rfl)))
            go_wp2_with fail
            refine (unhide HS).mono ?_
            rintro e w9 ⟨rfl, _, hw9⟩
            go_wp2_with fail
            go_ret
            exact ⟨rfl, hw9⟩
          · clear m1 m2
            go_cut [59] from 60 (fun t wc => t = .bool false ∧ wc = W8)
            case first =>
              by_cases q : c.kind = 3
              · have t3 : (c.kind == 3) = true := by simpa using q
                have n3 : (c.kind != 3) = false := by simp [bne, t3]
                go_wp2_with fail
                go_meet
                case rel => exact ⟨rfl, rfl⟩
              · have q4 : c.kind = 4 := by
                  refine Classical.byContradiction fun q4 => hkk ⟨q, q4⟩
                have t3 : (c.kind == 3) = false := by simpa using q
                have n3 : (c.kind != 3) = true := by simp [bne, t3]
                have t4 : (c.kind == 4) = true := by simpa using q4
                have n4 : (c.kind != 4) = false := by simp [bne, t4]
                go_wp2_with fail
                go_meet
                case rel => exact ⟨rfl, rfl⟩
            case rest =>
              obtain ⟨rfl, hwc⟩ := hcut
              have hwc' := hwc.symm
              subst hwc'
              have hx1 : W8.cell? ⟨cg2, co2 + k * 3 + 1, none⟩ = some (.int .i64 c0.n) := unhide HM1
              have hx2 : W8.cell? ⟨cg2, co2 + k * 3 + 2, none⟩ = some (.string c0.text) := unhide HM2
              by_cases hk3 : c0.kind = 3
              · have t3 : (c0.kind == 3) = true := by simpa using hk3
                have HD1 := hide ((unhide HO8).setC (c' := { c0 with text := { data := #[120] } }) (vs := [.string { data := #[120] }]) (j := 2) rfl (unhide HC0) (by simp) (fun i hi => by
                  match i, hi with
                  | 0, _ => rfl
                  | 1, _ => rfl
                  | 2, _ => rfl))
                have HS := hide (unhide HST (W8.setCell ⟨cg2, co2 + k * 3 + 2, none⟩ (.string { data := #[120] })) { c0 with text := { data := #[120] } } ((Fr.refl (fun b => b = cg2) W8).setCell ⟨cg2, co2 + k * 3 + 2, none⟩ (.inr rfl) _) ⟨hokc0.1, hokc0.2.1, show (1 : Nat) ≤ maxLen by unfold maxLen; omega⟩ (rfB_text hk3) (unhide HD1))
                go_wp2_with fail
                refine (unhide HS).mono ?_
                clear HS
                rintro e w9 ⟨rfl, hb9, _⟩
                have hF9 : Fr (fun b => b = cg2) W8 w9 := ((Fr.refl (fun b => b = cg2) W8).setCell ⟨cg2, co2 + k * 3 + 2, none⟩ (.inr rfl) (.string { data := #[120] })).trans (Fr.of_below hb9)
                have HO9 := hide ((show OP _ _ _ _ _ (W8.setCell ⟨cg2, co2 + k * 3 + 2, none⟩ (.string { data := #[120] })) from unhide HD1).keep hb9)
                have x09 := Fr.heldIn hF9 xl (fun e => hgq e.symm) x0
                have x19 := Fr.heldIn hF9 xl (fun e => hgq e.symm) x1
                have xl9 := Nat.lt_of_lt_of_le xl hF9.size
                have hgl9 := Nat.lt_of_lt_of_le hgl8 hF9.size
                have hck9 : (p.consts.set k { c0 with text := { data := #[120] } })[k]? = some { c0 with text := { data := #[120] } } := List.getElem?_set_self (by rw [hzl]; exact hpk)
                obtain ⟨_, _, _, e, _, _, hgr9, hcs⟩ := (Rx.of_ro (unhide HO9).co).elem zC hck9
                simp only [List.length_set, hzl] at e
                cases e
                have m0 := hcs 0 _ rfl
                have m1 := hcs 1 _ rfl
                have m2 := hcs 2 _ rfl
                rw [Nat.add_zero] at m0
                have hfz9 : ∀ o, w9.frozen? ⟨cg2, o, none⟩ = false := fun o => by have := (unhide HO9).co; simp only [List.length_set, hzl] at this; exact this.free rfl o
                have yf0 := hfz9 (co2 + k * 3)
                have yf1 := hfz9 (co2 + k * 3 + 1)
                have yf2 := hfz9 (co2 + k * 3 + 2)
                have HD2 := hide ((unhide HO9).setC (c' := ⟨3, 9218868437227405313, ByteArray.empty⟩) (vs := enC ⟨3, 9218868437227405313, ByteArray.empty⟩) (j := 0) rfl hck9 (by simp [enC]) (fun i hi => by rw [if_pos (by simp [enC]; omega)]; rfl))
                simp only [List.set_set] at HD2
                have HS := hide (unhide HST (((w9.setCell ⟨cg2, co2 + k * 3, none⟩ (.int .i64 3)).setCell ⟨cg2, co2 + k * 3 + 1, none⟩ (.int .i64 9218868437227405313)).setCell ⟨cg2, co2 + k * 3 + 2, none⟩ (.string ByteArray.empty)) ⟨3, 9218868437227405313, ByteArray.empty⟩ (((hF9.setCell ⟨cg2, co2 + k * 3, none⟩ (.inr rfl) _).setCell ⟨cg2, co2 + k * 3 + 1, none⟩ (.inr rfl) _).setCell ⟨cg2, co2 + k * 3 + 2, none⟩ (.inr rfl) _) ⟨by decide, by decide, by simp⟩ rfB_nan (unhide HD2))
                clear hcs hfz9 HO9 HD1 HD2 hF9 hb9 hck9
                go_wp2_with fail
                refine (unhide HS).mono ?_
                rintro e w10 ⟨rfl, _, hw10⟩
                go_wp2_with fail
                go_ret
                exact ⟨rfl, hw10⟩
              · have t3 : (c0.kind == 3) = false := by simpa using hk3
                have HD1 := hide ((unhide HO8).setC (c' := { c0 with n := 1 }) (vs := [.int .i64 1]) (j := 1) rfl (unhide HC0) (by simp) (fun i hi => by
                  match i, hi with
                  | 0, _ => rfl
                  | 1, _ => rfl
                  | 2, _ => rfl))
                have HS := hide (unhide HST (W8.setCell ⟨cg2, co2 + k * 3 + 1, none⟩ (.int .i64 1)) { c0 with n := 1 } ((Fr.refl (fun b => b = cg2) W8).setCell ⟨cg2, co2 + k * 3 + 1, none⟩ (.inr rfl) _) ⟨hokc0.1, show (Lit.int .i64 1).wf = true by decide, hokc0.2.2⟩ (rfB_n (by rcases rfB_kind hrf0 with e | e; exact absurd e hk3; exact e)) (unhide HD1))
                go_wp2_with fail
                refine (unhide HS).mono ?_
                clear HS
                rintro e w9 ⟨rfl, hb9, _⟩
                have hF9 : Fr (fun b => b = cg2) W8 w9 := ((Fr.refl (fun b => b = cg2) W8).setCell ⟨cg2, co2 + k * 3 + 1, none⟩ (.inr rfl) (.int .i64 1)).trans (Fr.of_below hb9)
                have HO9 := hide ((show OP _ _ _ _ _ (W8.setCell ⟨cg2, co2 + k * 3 + 1, none⟩ (.int .i64 1)) from unhide HD1).keep hb9)
                have x09 := Fr.heldIn hF9 xl (fun e => hgq e.symm) x0
                have x19 := Fr.heldIn hF9 xl (fun e => hgq e.symm) x1
                have xl9 := Nat.lt_of_lt_of_le xl hF9.size
                have hgl9 := Nat.lt_of_lt_of_le hgl8 hF9.size
                have hck9 : (p.consts.set k { c0 with n := 1 })[k]? = some { c0 with n := 1 } := List.getElem?_set_self (by rw [hzl]; exact hpk)
                obtain ⟨_, _, _, e, _, _, hgr9, hcs⟩ := (Rx.of_ro (unhide HO9).co).elem zC hck9
                simp only [List.length_set, hzl] at e
                cases e
                have m0 := hcs 0 _ rfl
                have m1 := hcs 1 _ rfl
                have m2 := hcs 2 _ rfl
                rw [Nat.add_zero] at m0
                have hfz9 : ∀ o, w9.frozen? ⟨cg2, o, none⟩ = false := fun o => by have := (unhide HO9).co; simp only [List.length_set, hzl] at this; exact this.free rfl o
                have yf0 := hfz9 (co2 + k * 3)
                have yf1 := hfz9 (co2 + k * 3 + 1)
                have yf2 := hfz9 (co2 + k * 3 + 2)
                have HD2 := hide ((unhide HO9).setC (c' := ⟨3, 9218868437227405313, ByteArray.empty⟩) (vs := enC ⟨3, 9218868437227405313, ByteArray.empty⟩) (j := 0) rfl hck9 (by simp [enC]) (fun i hi => by rw [if_pos (by simp [enC]; omega)]; rfl))
                simp only [List.set_set] at HD2
                have HS := hide (unhide HST (((w9.setCell ⟨cg2, co2 + k * 3, none⟩ (.int .i64 3)).setCell ⟨cg2, co2 + k * 3 + 1, none⟩ (.int .i64 9218868437227405313)).setCell ⟨cg2, co2 + k * 3 + 2, none⟩ (.string ByteArray.empty)) ⟨3, 9218868437227405313, ByteArray.empty⟩ (((hF9.setCell ⟨cg2, co2 + k * 3, none⟩ (.inr rfl) _).setCell ⟨cg2, co2 + k * 3 + 1, none⟩ (.inr rfl) _).setCell ⟨cg2, co2 + k * 3 + 2, none⟩ (.inr rfl) _) ⟨by decide, by decide, by simp⟩ rfB_nan (unhide HD2))
                clear hcs hfz9 HO9 HD1 HD2 hF9 hb9 hck9
                go_wp2_with fail
                refine (unhide HS).mono ?_
                rintro e w10 ⟨rfl, _, hw10⟩
                go_wp2_with fail
                go_ret
                exact ⟨rfl, hw10⟩
end
end Go.Proofs.YtfaafamdjcojlaaDoor
