/-
  Is a register asked for on some way: the law's own search.
-/
import Derived.Test.YtpbdmbmafjkinaaDoorWy2
import Derived.Test.YtpbdmbmafjkinaaDoorTl
namespace Go.Proofs.YtpbdmbmafjkinaaDoor
open Go.RowKit
set_option linter.unusedVariables false
set_option linter.unusedSimpArgs false
/-- What was taken out of each block, in memory. -/
def OutV (w : World) (bl : List Bk) (ob oo : Nat) : Prop := ob < w.heap.size ∧ ∀ (b : Nat) (u : Bk), bl[b]? = some u → ∃ g, w.cell? ⟨ob, oo + b, none⟩ = some (.slice (some ⟨g, 0, none⟩) u.ins.length u.ins.length) ∧ Ro w 1 (.slice (some ⟨g, 0, none⟩) u.ins.length u.ins.length) u.ins.length (flt enBo (rowG (wS bl b) u.ins 0))
theorem OutV.on {w V : World} {bl : List Bk} {ob oo : Nat} (h : OutV w bl ob oo) (f : Below w.heap.size w V) : OutV V bl ob oo :=
  ⟨Nat.lt_of_lt_of_le h.1 f.size, fun b u hu => by
    obtain ⟨g, h1, h2⟩ := h.2 b u hu
    exact ⟨g, (f.cell (p := ⟨ob, oo + b, none⟩) h.1).trans h1, h2.fr (Fr.of_below (S := fun _ => False) f) (fun _ _ e => e)⟩⟩
def unv : List Bool → Nat
  | [] => 0
  | b :: l => (if b = true then 0 else 1) + unv l
theorem unv_set : ∀ {l : List Bool} {n : Nat}, l[n]? = some false → unv (l.set n true) + 1 = unv l
  | [], n, h => by simp at h
  | b :: l, 0, h => by
    obtain rfl : b = false := by simpa using h
    simp [unv]; omega
  | b :: l, n + 1, h => by
    have := unv_set (l := l) (n := n) (by simpa using h)
    simp only [List.set_cons_succ, unv]
    omega
theorem unv_rep : ∀ n, unv (List.replicate n false) = n
  | 0 => rfl
  | n + 1 => by rw [List.replicate_succ, unv, unv_rep n]; simp; omega
theorem wtf_rep (n : Nat) : wtf (List.replicate n false) = fun _ => false := by
  funext k
  unfold wtf
  rw [List.getElem?_replicate]
  split <;> rfl
/-- While the search goes on. -/
structure MtS (w : World) (fn regs : Int) (iv : Value) (L : Nat) (wl : List Bool) (v : Value) (wk : List Nat) (V : World) : Prop where
  bx : V.heap[w.heap.size]? = some (.cells #[.int .i64 fn, .int .i64 regs, iv] 24)
  wr : Ro V 1 (.slice (some ⟨w.heap.size + 1, 0, none⟩) L L) L (flt enBo wl)
  wl : wl.length = L
  nr : NR w v wk V
  ne : ∀ k, v.ownBlock = some k → w.heap.size + 1 < k
  lt : w.heap.size + 1 < V.heap.size
section
variable {w : World} {fn regs : Int} {iv : Value} {L : Nat} {wl : List Bool} {v : Value} {wk : List Nat} {V V' : World}
theorem MtS.on (h : MtS w fn regs iv L wl v wk V) (f : Below V.heap.size V V') : MtS w fn regs iv L wl v wk V' :=
  ⟨keepB f h.bx, h.wr.fr (Fr.of_below (S := fun _ => False) f) (fun _ _ e => e), h.wl, h.nr.on f, h.ne, Nat.lt_of_lt_of_le h.lt f.size⟩
theorem MtS.box (h : MtS w fn regs iv L wl v wk V) : w.heap.size < V.heap.size ∧ V.cell? ⟨w.heap.size, 2, none⟩ = some iv := by
  obtain ⟨q1, _, q3⟩ := blk_cells h.bx
  exact ⟨q3, q1 2⟩
theorem MtS.was (h : MtS w fn regs iv L wl v wk V) {n : Nat} (hn : n < L) : ∃ b, wl[n]? = some b ∧ wtf wl n = b ∧ V.cell? ⟨w.heap.size + 1, n, none⟩ = some (.bool b) ∧ V.frozen? ⟨w.heap.size + 1, n, none⟩ = false := by
  obtain ⟨b, hb⟩ : ∃ b, wl[n]? = some b := ⟨_, List.getElem?_eq_getElem (by rw [h.wl]; exact hn)⟩
  obtain ⟨g, off, cap, e, _, _, hg, hc⟩ := h.wr.full (by omega)
  cases e
  have q := hc n (by omega)
  have hv : (flt enBo wl)[n]? = some (.bool b) := by
    have q := flt_at zBo hb 0 (by omega)
    simpa [enBo] using q
  rw [hv, Nat.zero_add] at q
  exact ⟨b, hb, wtf_at hb, q, by have q := h.wr.free rfl n; exact q⟩
theorem MtS.mark (h : MtS w fn regs iv L wl v wk V) {n : Nat} {b : Bool} (hn : wl[n]? = some b) : MtS w fn regs iv L (wl.set n true) v wk (V.setCell ⟨w.heap.size + 1, n, none⟩ (.bool true)) := by
  have q := Ro.put1 zBo h.wr rfl (i := n) (c := 0) (x' := true) (u := .bool true) hn (by omega) rfl
  obtain ⟨q1, q2⟩ := q
  simp only [Nat.zero_add, Nat.mul_one, Nat.add_zero] at q1 q2
  have hs := h.nr.bel.size
  exact ⟨(q2.block _ (Array.getElem?_eq_some_iff.1 h.bx).1 (by omega)).trans h.bx, q1, by rw [List.length_set]; exact h.wl, ⟨h.nr.bel.trans (q2.below hs (fun k hk e => by omega)), h.nr.row.fr q2 (fun k hk e => by have := h.ne k hk; omega), h.nr.own⟩, h.ne, Nat.lt_of_lt_of_le h.lt q2.size⟩
theorem MtS.push {va : Option Addr} {n vc : Nat} (h : MtS w fn regs iv L wl (.slice va n vc) wk V) (hn : n = wk.length) (hl : wk.length ≤ 8796093022207) (r : Nat) : ∃ ya yc w1, (Builtin.append_ #[25, 25] 25 #[.slice va n vc, .slice (some ⟨V.heap.size, 0, none⟩) 1 1]).run Tryd.prog (V.alloc (.cells #[.int .i64 (r : Int)] 3)) = .ok (.slice ya (n + 1) yc) w1 ∧ MtS w fn regs iv L wl (.slice ya (n + 1) yc) (wk ++ [r]) w1 := by
  subst hn
  obtain ⟨i4, hi4, hz4, hs4, hb4⟩ := info_parts infIC2
  have hB := box1n V (.cells #[.int .i64 (r : Int)] 3)
  obtain ⟨x', w1, hrun, r1, r2, r3⟩ := Ro.app (P := Tryd.prog) 25 25 3 i4 _ 1 8 Tryd.underlying25 hi4 hz4 hs4 hb4 rfl (by decide) (h.nr.row.fr (Fr.of_below (S := fun _ => False) hB) (fun _ _ e => e)) ⟨V.heap.size, 0, none⟩ 1 1 (enN r) rfl (new_cells V _ _) (by simp [enN, Value.oneCell']) (by omega) (by unfold maxLen; omega) (by omega)
  obtain ⟨ya, yc, rfl, _, _⟩ := r1.shape
  have f1 : Fr (fun k => (Value.slice va wk.length vc).ownBlock = some k) (V.alloc (.cells #[.int .i64 (r : Int)] 3)) w1 := (Fr.refl _ _).grown r2 (fun k e => .inr e)
  have hs := h.nr.bel.size
  have h2 := h.on hB
  have hlt := h.lt
  have hne : ∀ k, (Value.slice ya (wk.length + 1) yc).ownBlock = some k → w.heap.size + 1 < k := fun k hk => by
    rcases r3 with q | q
    · exact h.ne k (by rw [← q]; exact hk)
    · rw [q] at hk; cases hk; simp; omega
  refine ⟨ya, yc, w1, hrun, ⟨(f1.block _ (Array.getElem?_eq_some_iff.1 h2.bx).1 (fun e => by have := h.ne _ e; omega)).trans h2.bx, h2.wr.fr f1 (fun k hk e => by have hk := own_eq hk; have := h.ne _ e; omega), h.wl, ⟨(h.nr.bel.trans (hB.mono hs)).trans (f1.below (by simp; omega) (fun k hk e => by have := h.nr.own k e; omega)), by rw [List.length_append, flt_append, flt_one]; exact r1, fun k hk => by have := hne k hk; omega⟩, hne, by have := f1.size; simp at this; omega⟩⟩
end
set_option maxRecDepth 100000 in
set_option maxHeartbeats 25600000 in
theorem met_any {w : World} {D : Nat → Prop} {fn regs : Int} {bl : List Bk} {v : Value} {ob oo oc : Nat} {b i r : Nat} {u : Bk} (h : BksV D w bl v) (hO : ∀ b ∈ bl, OkL b) (hN : bl.length ≤ 1048576) (hout : OutV w bl ob oo) (hu : bl[b]? = some u) (hi : i ≤ u.ins.length) (hr : r < 512) :
    Calls Tryd.prog 18 #[.agg #[.int .i64 fn, .int .i64 regs, v], .slice (some ⟨ob, oo, none⟩) bl.length oc, .int .i64 (b : Int), .int .i64 (i : Int), .int .i64 (r : Int)] w fun e w' => e = .returned (.bool (backL (wS bl b) (u.ins.drop i) r)) ∧ Below w.heap.size w w' := by
  obtain ⟨va, c, rfl, hv1, hv2⟩ := NV.shape h
  obtain ⟨L, hL⟩ : ∃ z, Hid (bl.length = z) := ⟨_, hide rfl⟩
  have hbL : b < L := by rw [← unhide hL]; exact (List.getElem?_eq_some_iff.1 hu).1
  have HO := hide hO
  have HOU := hide hout
  have HV := hide h
  -- of each block: its cells, and what along answers of it
  have HBK : Hid (∀ (b : Nat) (u : Bk), bl[b]? = some u → ∃ vb vo ia ic na nc g, va = some ⟨vb, vo, none⟩ ∧ (∀ V, Below w.heap.size w V → vb < V.heap.size ∧ V.cell? ⟨vb, vo + b * 3 + 1, none⟩ = some (.slice ia u.ins.length ic) ∧ V.cell? ⟨vb, vo + b * 3 + 2, none⟩ = some (.slice na u.nx.length nc) ∧ V.cell? ⟨ob, oo + b, none⟩ = some (.slice (some ⟨g, 0, none⟩) u.ins.length u.ins.length) ∧ ob < V.heap.size) ∧ u.nx.length ≤ 1048576 ∧ (∀ V, Below w.heap.size w V → Rx V 1 (.slice na u.nx.length nc) u.nx.length (flt enI u.nx)) ∧ ∀ V, Below w.heap.size w V → ∀ i r : Nat, i ≤ u.ins.length → Calls Tryd.prog 35 #[.slice ia u.ins.length ic, .slice (some ⟨g, 0, none⟩) u.ins.length u.ins.length, .int .i64 (i : Int), .int .i64 (r : Int)] V fun e w' => e = .returned (.int .i64 (alB bl b u i r : Int)) ∧ Below V.heap.size V w') := fun b u hu => by
    obtain ⟨vb, vo, ia, ic, na, nc, ea, hvb, hIns, hNx, hic, hnc, hicl, hncl, hcc⟩ := (unhide HV).blk hu
    obtain ⟨g, g1, g2⟩ := (unhide HOU).2 b u hu
    refine ⟨vb, vo, ia, ic, na, nc, g, ea, fun V hV => ?_, (unhide HO u (List.mem_of_getElem? hu)).2.1, fun V hV => hNx.1.below hV (Nat.le_refl _), fun V hV i r hi => ?_⟩
    · obtain ⟨q0, q1, q2, q3⟩ := hcc V hV
      exact ⟨q0, q2, q3, (hV.cell (p := ⟨ob, oo + b, none⟩) (unhide HOU).1).trans g1, Nat.lt_of_lt_of_le (unhide HOU).1 hV.size⟩
    · exact along_any (InsV.mv _ _ _ _ _ _ _ hIns (Fr.of_below (S := fun _ => False) hV) (fun k hk d => ⟨fun e => e, d⟩)) (unhide HO u (List.mem_of_getElem? hu)) rfl (g2.fr (Fr.of_below (S := fun _ => False) hV) (fun _ _ e => e)) i r hi
  obtain ⟨vb, vo, ia, ic, na, nc, g, ea, hcc, hnx, hnr, hal⟩ := unhide HBK b u hu
  subst ea
  obtain ⟨n, hnn⟩ : ∃ z, Hid (u.ins.length = z) := ⟨_, hide rfl⟩
  obtain ⟨A, hA⟩ : ∃ z, Hid (alB bl b u i r = z) := ⟨_, hide rfl⟩
  obtain ⟨ST, hST⟩ : ∃ z, Hid (backL (wS bl b) (u.ins.drop i) r = z) := ⟨_, hide rfl⟩
  have HU := hide hu
  rw [unhide hL] at hN hv1 ⊢
  rw [unhide hST]
  unfold maxLen at hv2
  obtain ⟨W, hW⟩ : ∃ W, Hid ((w.alloc (.cells #[.int .i64 fn, .int .i64 regs, .slice (some ⟨vb, vo, none⟩) L c] 24)).alloc (moB L) = W) := ⟨_, hide rfl⟩
  have HWB : Hid (Below w.heap.size w W) := by rw [← unhide hW]; exact bl_two w _ _
  have HS1 : Hid (∀ x : Unit, MtS w fn regs (.slice (some ⟨vb, vo, none⟩) L c) L (List.replicate L false) (.slice none 0 0) [] W) := fun _ => by
    have e1 := keepB (box1n _ (moB L)) (heap_alloc_new w (.cells #[.int .i64 fn, .int .i64 regs, .slice (some ⟨vb, vo, none⟩) L c] 24))
    rw [unhide hW] at e1
    have q := made_ro enBo false (Value.bool false).cells 1 zBo (by decide) rfl (w.alloc (.cells #[.int .i64 fn, .int .i64 regs, .slice (some ⟨vb, vo, none⟩) L c] 24)) 4 L (by unfold maxLen; omega)
    rw [World.size_alloc] at q
    refine ⟨e1, by rw [← unhide hW]; exact q, List.length_replicate, ⟨unhide HWB, Ro.nil W 1, fun k hk => (by cases hk)⟩, fun k hk => (by cases hk), by rw [← unhide hW]; simp⟩
  have hmk := mk72 (N := L) (by omega)
  obtain ⟨x0, x1⟩ := (unhide HS1 ()).box
  have hW' := unhide hW
  have hal2 := fun V hV => hal V hV i r hi
  rw [unhide hnn] at hi hcc hal2
  rw [unhide hA] at hal2
  have HAL0 := hide hal2
  have HCC := hide hcc
  have b0 : (0 : Int) ≤ (b : Int) := by omega
  have b1 : (b : Int) < (L : Int) := by omega
  clear h hO hout hu hcc hal hal2 hnr hnx
  go_enter Tryd.func18, Tryd.ntmps18
  go_wp2_with fail
  clear hmk hW' hW x0 x1
  obtain ⟨Y2, hY2⟩ : ∃ z, Hid (W.drew = z) := ⟨_, hide rfl⟩
  have HS0 : Hid (Below W.heap.size W Y2) := by rw [← unhide hY2]; exact bl_drew W
  have HCX : Hid (∀ V, Below W.heap.size W V → w.heap.size < V.heap.size ∧ vb < V.heap.size ∧ ob < V.heap.size ∧ V.cell? ⟨w.heap.size, 2, none⟩ = some (.slice (some ⟨vb, vo, none⟩) L c) ∧ V.cell? ⟨vb, vo + b * 3 + 1, none⟩ = some (.slice ia n ic) ∧ V.cell? ⟨ob, oo + b, none⟩ = some (.slice (some ⟨g, 0, none⟩) n n)) := fun V hV => by
    obtain ⟨q1, q2⟩ := ((unhide HS1 ()).on hV).box
    obtain ⟨s0, s1, s2, s3, s4⟩ := unhide HCC V (bl_past (unhide HWB) hV)
    exact ⟨q1, s0, s4, q2, s1, s3⟩
  have HAL := hide (unhide HAL0 Y2 (bl_past (unhide HWB) (unhide HS0)))
  refine wp_region_held_drew (S := fun V => Below W.heap.size W V) (by kernel_rfl) (by rw [unhide hY2]; exact unhide HS0) (fun hHeld => ?_)
  clear hHeld
  rw [unhide hY2]
  clear hY2
  refine wpAnyH_take (i := 0) (oi := _) (v := .pointer (some ⟨w.heap.size, 2, none⟩)) rfl (by kernel_rfl) (by kernel_rfl) (by kernel_rfl) (fun _ _ _ h => h) (Or.inl ⟨by rfl, (by intro w' hSw; go_simp; first | done | rfl)⟩) (unhide HS0) ?_
  go_simp
  refine wpAnyH_take (i := 1) (oi := _) (v := .slice (some ⟨vb, vo, none⟩) L c) rfl (by kernel_rfl) (by kernel_rfl) (by kernel_rfl) (fun _ _ _ h => h) (Or.inl ⟨by rfl, (by intro w' hSw; obtain ⟨q0, q1, q2, q3, q4, q5⟩ := unhide HCX w' hSw; go_simp; first | done | rfl)⟩) (unhide HS0) ?_
  go_simp
  refine wpAnyH_take (i := 2) (oi := _) (v := .int .i64 (b : Int)) rfl (by kernel_rfl) (by kernel_rfl) (by kernel_rfl) (fun _ _ _ h => h) (Or.inl ⟨by rfl, (by intro w' hSw; go_simp; first | done | rfl)⟩) (unhide HS0) ?_
  go_simp
  refine wpAnyH_take (i := 3) (oi := _) (v := .pointer (some ⟨vb, vo + b * 3, none⟩)) rfl (by kernel_rfl) (by kernel_rfl) (by kernel_rfl) (fun _ _ _ h => h) (Or.inl ⟨by rfl, (by intro w' hSw; go_simp; first | done | rfl)⟩) (unhide HS0) ?_
  go_simp
  refine wpAnyH_take (i := 4) (oi := _) (v := .pointer (some ⟨vb, vo + b * 3 + 1, none⟩)) rfl (by kernel_rfl) (by kernel_rfl) (by kernel_rfl) (fun _ _ _ h => h) (Or.inl ⟨by rfl, (by intro w' hSw; go_simp; first | done | rfl)⟩) (unhide HS0) ?_
  go_simp
  refine wpAnyH_take (i := 5) (oi := _) (v := .slice ia n ic) rfl (by kernel_rfl) (by kernel_rfl) (by kernel_rfl) (fun _ _ _ h => h) (Or.inl ⟨by rfl, (by intro w' hSw; obtain ⟨q0, q1, q2, q3, q4, q5⟩ := unhide HCX w' hSw; go_simp; first | done | rfl)⟩) (unhide HS0) ?_
  go_simp
  refine wpAnyH_take (i := 6) (oi := _) (v := .slice (some ⟨ob, oo, none⟩) L oc) rfl (by kernel_rfl) (by kernel_rfl) (by kernel_rfl) (fun _ _ _ h => h) (Or.inl ⟨by rfl, (by intro w' hSw; go_simp; first | done | rfl)⟩) (unhide HS0) ?_
  go_simp
  refine wpAnyH_take (i := 7) (oi := _) (v := .int .i64 (b : Int)) rfl (by kernel_rfl) (by kernel_rfl) (by kernel_rfl) (fun _ _ _ h => h) (Or.inl ⟨by rfl, (by intro w' hSw; go_simp; first | done | rfl)⟩) (unhide HS0) ?_
  go_simp
  refine wpAnyH_take (i := 8) (oi := _) (v := .pointer (some ⟨ob, oo + b, none⟩)) rfl (by kernel_rfl) (by kernel_rfl) (by kernel_rfl) (fun _ _ _ h => h) (Or.inl ⟨by rfl, (by intro w' hSw; go_simp; first | done | rfl)⟩) (unhide HS0) ?_
  go_simp
  refine wpAnyH_take (i := 9) (oi := _) (v := .slice (some ⟨g, 0, none⟩) n n) rfl (by kernel_rfl) (by kernel_rfl) (by kernel_rfl) (fun _ _ _ h => h) (Or.inl ⟨by rfl, (by intro w' hSw; obtain ⟨q0, q1, q2, q3, q4, q5⟩ := unhide HCX w' hSw; go_simp; first | done | rfl)⟩) (unhide HS0) ?_
  go_simp
  refine wpAnyH_take (i := 10) (oi := _) (v := .int .i64 (i : Int)) rfl (by kernel_rfl) (by kernel_rfl) (by kernel_rfl) (fun _ _ _ h => h) (Or.inl ⟨by rfl, (by intro w' hSw; go_simp; first | done | rfl)⟩) (unhide HS0) ?_
  go_simp
  refine wpAnyH_take (i := 11) (oi := _) (v := .int .i64 (r : Int)) rfl (by kernel_rfl) (by kernel_rfl) (by kernel_rfl) (fun _ _ _ h => h) (Or.inl ⟨by rfl, (by intro w' hSw; go_simp; first | done | rfl)⟩) (unhide HS0) ?_
  go_simp
  refine wpAnyH_ready (rs := [12]) (by kernel_rfl) (by simp) ?_
  refine AllReadyH.cons (o := _) rfl (fun K hK => ?_) AllReadyH.nil
  go_simp
  refine (unhide HAL).mono ?_
  rintro e Y3 ⟨rfl, b3⟩
  have HS3 : Hid (Below W.heap.size W Y3) := (unhide HS0).trans (b3.mono (unhide HS0).size)
  clear b3 HAL HS0
  refine hK.out _ _ (unhide HS3) (fun _ => ?_)
  clear hK K
  go_simp
  refine wpAnyH_take (i := 13) (oi := _) (v := .int .i64 (A : Int)) rfl (by kernel_rfl) (by kernel_rfl) (by kernel_rfl) (fun _ _ _ h => h) (Or.inl ⟨by rfl, (by intro w' hSw; go_simp; first | done | rfl)⟩) (unhide HS3) ?_
  go_simp
  refine wpAnyH_done (by kernel_rfl) ?_ _
  have HS2 := hide ((unhide HS1 ()).on (unhide HS3))
  clear HS1 HCX
  by_cases hA0 : A = 0
  case neg =>
    have a0 : ¬ (A : Int) = 0 := by omega
    have hle : A ≤ 2 := by rw [← unhide hA]; exact al_le _ _
    have HBW := hide (unhide HS2).nr.bel
    by_cases hA1 : A = 1
    · have HR1 : Hid (ST = true) := by rw [Hid, ← unhide hST]; exact alB_one hr (by rw [unhide hA]; exact hA1)
      subst hA1
      clear HS2 HS3 hA0
      go_wp2_with fail
      first | go_ret | go_end0
      exact ⟨by rw [unhide HR1]; rfl, unhide HBW⟩
    · have hA2 : A = 2 := by omega
      have HR1 : Hid (ST = false) := by rw [Hid, ← unhide hST]; exact alB_two (Sub.refl _) (by rw [unhide hA]; exact hA2)
      subst hA2
      clear HS2 HS3 hA0 hA1
      go_wp2_with fail
      first | go_ret | go_end0
      exact ⟨by rw [unhide HR1]; rfl, unhide HBW⟩
  subst hA0
  have HMS := MS.start (i := i) (by rw [unhide hL]; exact hbL) (unhide hA)
  rw [unhide hST] at HMS
  have HMS := hide HMS
  obtain ⟨Z0, hZ0⟩ : ∃ z, Hid (Y3.alloc (.cells #[.int .i64 (b : Int)] 3) = z) := ⟨_, hide rfl⟩
  have HM0 : Hid (MtS w fn regs (.slice (some ⟨vb, vo, none⟩) L c) L (List.replicate L false) (.slice (some ⟨Y3.heap.size, 0, none⟩) 1 1) [b] Z0) := by
    have q := (unhide HS2).on (box1n Y3 (.cells #[.int .i64 (b : Int)] 3))
    rw [unhide hZ0] at q
    have hn := heap_alloc_new Y3 (.cells #[.int .i64 (b : Int)] 3)
    rw [unhide hZ0] at hn
    have hlt := (unhide HS2).lt
    exact ⟨q.bx, q.wr, q.wl, ⟨q.nr.bel, roB (t := 3) (xs := [.int .i64 (b : Int)]) hn rfl (by decide), fun k hk => (by cases hk; show w.heap.size ≤ Y3.heap.size; omega)⟩, fun k hk => (by cases hk; show w.heap.size + 1 < Y3.heap.size; omega), q.lt⟩
  have hZ0' := unhide hZ0
  clear HS2 HS3 HAL0 HCC
  go_wp2_with fail
  clear hZ0' hZ0
  obtain ⟨pb0, hpb0⟩ : ∃ z, Hid (Y3.heap.size = z) := ⟨_, hide rfl⟩
  rw [unhide hpb0] at HM0 ⊢
  clear hpb0
  go_loopg [14, 13, 12] (L + 1) (fun gg t14 t13 t12 wr => ∃ (k : Nat) (wa : Option Addr) (wn wc : Nat) (wl : List Bool) (wk : List Nat) (A : Nat), Hid (unv wl + wk.length = gg + k ∧ k ≤ wk.length ∧ unv wl + wk.length ≤ L + 1 ∧ wn = wk.length ∧ wk ≠ []) ∧ t14 = .int .i64 (k : Int) ∧ t13 = .slice wa wn wc ∧ t12 = .int .i64 (A : Int) ∧ Hid (MtS w fn regs (.slice (some ⟨vb, vo, none⟩) L c) L wl (.slice wa wn wc) wk wr) ∧ Hid (MS bl r ST (wtf wl) wk k []))
  case atStart => exact ⟨0, _, 1, 1, _, [b], 0, ⟨by rw [unv_rep]; simp, by simp, by rw [unv_rep]; simp, rfl, by simp⟩, rfl, rfl, rfl, HM0, by rw [wtf_rep]; exact unhide HMS⟩
  case round =>
    clear HM0 HMS
    obtain ⟨k, wa, wn, wc, wl, wk, A0, hk, rfl, rfl, rfl, hM, hS⟩ := hrel
    by_cases hlt : k < wn
    · obtain ⟨WN, hWN⟩ : ∃ z, Hid (wn = z) := ⟨_, hide rfl⟩
      have hkl : k < wk.length := by rw [← (unhide hk).2.2.2.1]; exact hlt
      obtain ⟨b1, hb1⟩ : ∃ b1, wk[k]? = some b1 := ⟨_, List.getElem?_eq_getElem hkl⟩
      have hb1L : b1 < L := by rw [← unhide hL]; exact (unhide hS).rng b1 (List.mem_of_getElem? hb1)
      obtain ⟨u1, hu1⟩ : ∃ u, bl[b1]? = some u := ⟨_, List.getElem?_eq_getElem (by rw [unhide hL]; exact hb1L)⟩
      obtain ⟨vb', vo', ia, ic, na, nc, g, ea, hcc, hnx, hnr, hal⟩ := unhide HBK b1 u1 hu1
      cases ea
      have hro := (unhide hM).nr.row
      obtain ⟨pb, po, pc, ep, _, _, hpb, hpc⟩ := (Rx.of_ro hro).elem zN hb1
      have ewn := (unhide hk).2.2.2.1
      have ewa : wa = some ⟨pb, po, none⟩ := by cases ep; rfl
      subst ewa
      have hpk : wr.cell? ⟨pb, po + k, none⟩ = some (.int .i64 (b1 : Int)) := by have q := hpc 0 _ rfl; simpa using q
      obtain ⟨NL, hNL⟩ : ∃ z, Hid (u1.nx.length = z) := ⟨_, hide rfl⟩
      rw [unhide hNL] at hcc hnx hnr
      have HCX : Hid (∀ V, Below wr.heap.size wr V → (w.heap.size < V.heap.size ∧ vb < V.heap.size ∧ pb < V.heap.size) ∧ V.cell? ⟨w.heap.size, 2, none⟩ = some (.slice (some ⟨vb, vo, none⟩) L c) ∧ V.cell? ⟨vb, vo + b1 * 3 + 2, none⟩ = some (.slice na NL nc) ∧ V.cell? ⟨pb, po + k, none⟩ = some (.int .i64 (b1 : Int)) ∧ True ∧ True) := fun V hV => by
        obtain ⟨q1, q2⟩ := ((unhide hM).on hV).box
        obtain ⟨s0, s1, s2, s3, s4⟩ := hcc V (bl_past (unhide hM).nr.bel hV)
        exact ⟨⟨q1, s0, Nat.lt_of_lt_of_le hpb hV.size⟩, q2, s2, (hV.cell (p := ⟨pb, po + k, none⟩) hpb).trans hpk, trivial, trivial⟩
      have k0 : (0 : Int) ≤ (k : Int) := by omega
      have k1 : (k : Int) < (WN : Int) := by have := unhide hWN; omega
      have c0 : (0 : Int) ≤ (b1 : Int) := by omega
      have c1 : (b1 : Int) < (L : Int) := by omega
      have HB1 := hide hb1
      have HU1 := hide hu1
      have HNR := hide hnr
      have hnl : Hid (NL ≤ 1048576) := hnx
      obtain ⟨Y2, hY2⟩ : ∃ z, Hid (wr.drew = z) := ⟨_, hide rfl⟩
      have HS0 : Hid (Below wr.heap.size wr Y2) := by rw [← unhide hY2]; exact bl_drew wr
      rw [unhide hWN]
      have HK2 := hk
      have HWN := hWN
      clear hb1 hu1 hro hpc hpk hcc hnr hal ep hlt
      go_wp2_with fail
      refine wp_region_held_drew (S := fun V => Below wr.heap.size wr V) (by kernel_rfl) (by rw [unhide hY2]; exact unhide HS0) (fun hHeld => ?_)
      clear hHeld
      rw [unhide hY2]
      refine wpAnyH_take (i := 0) (oi := _) (v := .pointer (some ⟨w.heap.size, 2, none⟩)) rfl (by kernel_rfl) (by kernel_rfl) (by kernel_rfl) (fun _ _ _ h => h) (Or.inl ⟨by rfl, (by intro w' hSw; go_simp; first | done | rfl)⟩) (unhide HS0) ?_
      go_simp
      refine wpAnyH_take (i := 1) (oi := _) (v := .slice (some ⟨vb, vo, none⟩) L c) rfl (by kernel_rfl) (by kernel_rfl) (by kernel_rfl) (fun _ _ _ h => h) (Or.inl ⟨by rfl, (by intro w' hSw; obtain ⟨q0, q1, q2, q3, q4, q5⟩ := unhide HCX w' hSw; go_simp; first | done | rfl)⟩) (unhide HS0) ?_
      go_simp
      refine wpAnyH_take (i := 2) (oi := _) (v := .slice (some ⟨pb, po, none⟩) WN wc) rfl (by kernel_rfl) (by kernel_rfl) (by kernel_rfl) (fun _ _ _ h => h) (Or.inl ⟨by rfl, (by intro w' hSw; go_simp; first | done | rfl)⟩) (unhide HS0) ?_
      go_simp
      refine wpAnyH_take (i := 3) (oi := _) (v := .int .i64 (k : Int)) rfl (by kernel_rfl) (by kernel_rfl) (by kernel_rfl) (fun _ _ _ h => h) (Or.inl ⟨by rfl, (by intro w' hSw; go_simp; first | done | rfl)⟩) (unhide HS0) ?_
      go_simp
      refine wpAnyH_take (i := 4) (oi := _) (v := .pointer (some ⟨pb, po + k, none⟩)) rfl (by kernel_rfl) (by kernel_rfl) (by kernel_rfl) (fun _ _ _ h => h) (Or.inl ⟨by rfl, (by intro w' hSw; go_simp; first | done | rfl)⟩) (unhide HS0) ?_
      go_simp
      refine wpAnyH_take (i := 5) (oi := _) (v := .int .i64 (b1 : Int)) rfl (by kernel_rfl) (by kernel_rfl) (by kernel_rfl) (fun _ _ _ h => h) (Or.inl ⟨by rfl, (by intro w' hSw; obtain ⟨q0, q1, q2, q3, q4, q5⟩ := unhide HCX w' hSw; go_simp; first | done | rfl)⟩) (unhide HS0) ?_
      go_simp
      refine wpAnyH_take (i := 6) (oi := _) (v := .pointer (some ⟨vb, vo + b1 * 3, none⟩)) rfl (by kernel_rfl) (by kernel_rfl) (by kernel_rfl) (fun _ _ _ h => h) (Or.inl ⟨by rfl, (by intro w' hSw; go_simp; first | done | rfl)⟩) (unhide HS0) ?_
      go_simp
      refine wpAnyH_take (i := 7) (oi := _) (v := .pointer (some ⟨vb, vo + b1 * 3 + 2, none⟩)) rfl (by kernel_rfl) (by kernel_rfl) (by kernel_rfl) (fun _ _ _ h => h) (Or.inl ⟨by rfl, (by intro w' hSw; go_simp; first | done | rfl)⟩) (unhide HS0) ?_
      go_simp
      refine wpAnyH_take (i := 8) (oi := _) (v := .slice na NL nc) rfl (by kernel_rfl) (by kernel_rfl) (by kernel_rfl) (fun _ _ _ h => h) (Or.inl ⟨by rfl, (by intro w' hSw; obtain ⟨q0, q1, q2, q3, q4, q5⟩ := unhide HCX w' hSw; go_simp; first | done | rfl)⟩) (unhide HS0) ?_
      go_simp
      refine wpAnyH_take (i := 9) (oi := _) (v := .slice na NL nc) rfl (by kernel_rfl) (by kernel_rfl) (by kernel_rfl) (fun _ _ _ h => h) (Or.inl ⟨by rfl, (by intro w' hSw; go_simp; first | done | rfl)⟩) (unhide HS0) ?_
      go_simp
      refine wpAnyH_done (by kernel_rfl) ?_ _
      clear hY2
      have HM1 : Hid (MtS w fn regs (.slice (some ⟨vb, vo, none⟩) L c) L wl (.slice (some ⟨pb, po, none⟩) wn wc) wk Y2) := (unhide hM).on (unhide HS0)
      rw [unhide HWN] at HM1
      have hwn2 : WN = wk.length := by rw [← unhide HWN]; exact ewn
      clear hM HCX HS0
      obtain ⟨C, hC⟩ : ∃ z, Hid (unv wl + wk.length = z) := ⟨_, hide rfl⟩
      have HKK : Hid (C = gk + k ∧ k + 1 ≤ C ∧ C ≤ L + 1) := ⟨by have h1 := (unhide HK2).1; have h2 := unhide hC; omega, by have h2 := unhide hC; omega, by have h1 := (unhide HK2).2.2.1; have h2 := unhide hC; omega⟩
      obtain ⟨WO, hWO⟩ : ∃ z, z = wr := ⟨_, rfl⟩
      obtain ⟨GO, hGO⟩ : ∃ z, Hid (gk = z) := ⟨_, hide rfl⟩
      rw [unhide hGO] at HKK
      have HC2 : Hid (unv wl + wk.length ≤ C ∧ WN = wk.length ∧ wk[k]? = some b1) := ⟨by have := unhide hC; omega, by rw [← unhide HWN]; exact ewn, unhide HB1⟩
      have HMS1 : Hid (MS bl r ST (wtf wl) wk k (u1.nx.take 0)) := by rw [List.take_zero]; exact hS
      clear hWO HK2 hC hk ewn hkl hS HB1 hwn2
      go_wp2_with fail
      go_loopg [16, 13, 12] NL (fun gg t16 t13 t12 wr => ∃ (j : Nat) (wa : Option Addr) (wn wc : Nat) (wl : List Bool) (wk : List Nat) (A : Nat), Hid (j + gg = NL) ∧ Hid (unv wl + wk.length ≤ C ∧ wn = wk.length ∧ wk[k]? = some b1) ∧ t16 = .int .i64 (j : Int) ∧ t13 = .slice wa wn wc ∧ t12 = .int .i64 (A : Int) ∧ Hid (MtS w fn regs (.slice (some ⟨vb, vo, none⟩) L c) L wl (.slice wa wn wc) wk wr) ∧ Hid (MS bl r ST (wtf wl) wk k (u1.nx.take j)))
      case atStart => exact ⟨0, _, _, _, _, _, _, by unfold Hid; omega, HC2, rfl, rfl, rfl, HM1, HMS1⟩
      case round =>
        clear HC2 HM1 HMS1
        obtain ⟨j, wa, wn, wc, wl, wk, A0, hj, hC2, rfl, rfl, rfl, hM, hS⟩ := hrel
        by_cases hjl : j < NL
        · have j0 : (0 : Int) ≤ (j : Int) := by omega
          have j1 : (j : Int) < (NL : Int) := by omega
          obtain ⟨z, hz⟩ : ∃ z, u1.nx[j]? = some z := ⟨_, List.getElem?_eq_getElem (by rw [unhide hNL]; exact hjl)⟩
          have hrx := unhide HNR wr (unhide hM).nr.bel
          rw [← unhide hNL] at hrx
          obtain ⟨nb, no, ncp, en, _, _, hnb, hnc⟩ := hrx.elem zI hz
          rw [unhide hNL] at en
          cases en
          have hzc : wr.cell? ⟨nb, no + j, none⟩ = some (.int .i64 z) := by have q := hnc 0 _ rfl; simpa using q
          have HZ := hide hz
          have htk := take_push (unhide HZ)
          have HNX : Hid (∀ wl wk, MS bl r ST (wtf wl) wk k (u1.nx.take j ++ [z]) → MS bl r ST (wtf wl) wk k (u1.nx.take (j + 1))) := fun wl wk q => by rw [htk]; exact q
          have hjn : Hid (j + 1 + (gk - 1) = NL) := by have := unhide hj; unfold Hid; omega
          clear hrx hnc hz htk
          by_cases hz0 : z < 0
          · have HS2 : Hid (MS bl r ST (wtf wl) wk k (u1.nx.take (j + 1))) := unhide HNX _ _ ((unhide hS).skip (fun n hn _ => by omega))
            clear hS
            go_wp2_with fail
            go_roundg (gk - 1)
            case measure => have := unhide hj; omega
            case rel => exact ⟨j + 1, _, _, _, _, _, _, hjn, hC2, by go_num, rfl, rfl, hM, HS2⟩
          · obtain ⟨n, rfl⟩ : ∃ n : Nat, z = (n : Int) := ⟨z.toNat, by omega⟩
            have n0 : (0 : Int) ≤ (n : Int) := by omega
            by_cases hnL : L ≤ n
            · have n1 : (L : Int) ≤ (n : Int) := by omega
              have HS2 : Hid (MS bl r ST (wtf wl) wk k (u1.nx.take (j + 1))) := unhide HNX _ _ ((unhide hS).skip (fun m hm hb => by rw [unhide hL] at hb; omega))
              clear hS
              go_wp2_with fail
              go_roundg (gk - 1)
              case measure => have := unhide hj; omega
              case rel => exact ⟨j + 1, _, _, _, _, _, _, hjn, hC2, by go_num, rfl, rfl, hM, HS2⟩
            · have n1 : ¬ (L : Int) ≤ (n : Int) := by omega
              have n2 : (n : Int) < (L : Int) := by omega
              obtain ⟨wb, hwb, hwf, hwc, hwz⟩ := (unhide hM).was (n := n) (by omega)
              have hwl := (unhide hM).lt
              cases wb with
              | true =>
                have HS2 : Hid (MS bl r ST (wtf wl) wk k (u1.nx.take (j + 1))) := unhide HNX _ _ ((unhide hS).skip (fun m hm hb => by have e : m = n := by omega
                                                                                                                                      rw [e]; exact hwf))
                clear hS hwb hwf hwz
                go_wp2_with fail
                go_roundg (gk - 1)
                case measure => have := unhide hj; omega
                case rel => exact ⟨j + 1, _, _, _, _, _, _, hjn, hC2, by go_num, rfl, rfl, hM, HS2⟩
              | false =>
              obtain ⟨t, ht⟩ : ∃ t, bl[n]? = some t := ⟨_, List.getElem?_eq_getElem (by rw [unhide hL]; omega)⟩
              obtain ⟨vb', vo', ia, ic, na2, nc2, g, ea, hcc, hnx2, hnr2, hal⟩ := unhide HBK n t ht
              cases ea
              have hal2 := fun V hV => hal V hV 0 r (Nat.zero_le _)
              obtain ⟨m, hm⟩ : ∃ z, Hid (t.ins.length = z) := ⟨_, hide rfl⟩
              obtain ⟨A, hA⟩ : ∃ z, Hid (alB bl n t 0 r = z) := ⟨_, hide rfl⟩
              rw [unhide hm] at hcc hal2
              rw [unhide hA] at hal2
              obtain ⟨Z, hZ⟩ : ∃ z, Hid (wr.setCell ⟨w.heap.size + 1, n, none⟩ (.bool true) = z) := ⟨_, hide rfl⟩
              have hM2 := (unhide hM).mark hwb
              rw [unhide hZ] at hM2
              have HM2 := hide hM2
              have HUV := hide (unv_set hwb)
              have HWT : Hid (wtf (wl.set n true) = updN (wtf wl) n true) := wtf_set (by rw [(unhide hM).wl]; omega) true
              have HT := hide ht
              have HMB : Hid ((n : Int) ∈ u1.nx) := List.mem_of_getElem? (unhide HZ)
              have HCX : Hid (∀ V, Below Z.heap.size Z V → w.heap.size < V.heap.size ∧ vb < V.heap.size ∧ ob < V.heap.size ∧ V.cell? ⟨w.heap.size, 2, none⟩ = some (.slice (some ⟨vb, vo, none⟩) L c) ∧ V.cell? ⟨vb, vo + n * 3 + 1, none⟩ = some (.slice ia m ic) ∧ V.cell? ⟨ob, oo + n, none⟩ = some (.slice (some ⟨g, 0, none⟩) m m)) := fun V hV => by
                obtain ⟨q1, q2⟩ := ((unhide HM2).on hV).box
                obtain ⟨s0, s1, s2, s3, s4⟩ := hcc V (bl_past (unhide HM2).nr.bel hV)
                exact ⟨q1, s0, s4, q2, s1, s3⟩
              obtain ⟨Y2, hY2⟩ : ∃ z, Hid (Z.drew = z) := ⟨_, hide rfl⟩
              have HS0 : Hid (Below Z.heap.size Z Y2) := by rw [← unhide hY2]; exact bl_drew Z
              have HAL : Hid (Calls Tryd.prog 35 #[.slice ia m ic, .slice (some ⟨g, 0, none⟩) m m, .int .i64 0, .int .i64 (r : Int)] Y2 fun e w' => e = .returned (.int .i64 (A : Int)) ∧ Below Y2.heap.size Y2 w') := hal2 Y2 (bl_past (unhide HM2).nr.bel (unhide HS0))
              have hle : A ≤ 2 := by rw [← unhide hA]; exact al_le _ _
              have hZ' := unhide hZ
              clear hwb hwf hM2 hcc hal hal2 ht
              go_wp2_with fail
              clear hZ' hZ hwc hwz hwl hzc
              refine wp_region_held_drew (S := fun V => Below Z.heap.size Z V) (by kernel_rfl) (by rw [unhide hY2]; exact unhide HS0) (fun hHeld => ?_)
              clear hHeld
              rw [unhide hY2]
              clear hY2
              refine wpAnyH_take (i := 0) (oi := _) (v := .pointer (some ⟨w.heap.size, 2, none⟩)) rfl (by kernel_rfl) (by kernel_rfl) (by kernel_rfl) (fun _ _ _ h => h) (Or.inl ⟨by rfl, (by intro w' hSw; go_simp; first | done | rfl)⟩) (unhide HS0) ?_
              go_simp
              refine wpAnyH_take (i := 1) (oi := _) (v := .slice (some ⟨vb, vo, none⟩) L c) rfl (by kernel_rfl) (by kernel_rfl) (by kernel_rfl) (fun _ _ _ h => h) (Or.inl ⟨by rfl, (by intro w' hSw; obtain ⟨q0, q1, q2, q3, q4, q5⟩ := unhide HCX w' hSw; go_simp; first | done | rfl)⟩) (unhide HS0) ?_
              go_simp
              refine wpAnyH_take (i := 2) (oi := _) (v := .int .i64 (n : Int)) rfl (by kernel_rfl) (by kernel_rfl) (by kernel_rfl) (fun _ _ _ h => h) (Or.inl ⟨by rfl, (by intro w' hSw; go_simp; first | done | rfl)⟩) (unhide HS0) ?_
              go_simp
              refine wpAnyH_take (i := 3) (oi := _) (v := .pointer (some ⟨vb, vo + n * 3, none⟩)) rfl (by kernel_rfl) (by kernel_rfl) (by kernel_rfl) (fun _ _ _ h => h) (Or.inl ⟨by rfl, (by intro w' hSw; go_simp; first | done | rfl)⟩) (unhide HS0) ?_
              go_simp
              refine wpAnyH_take (i := 4) (oi := _) (v := .pointer (some ⟨vb, vo + n * 3 + 1, none⟩)) rfl (by kernel_rfl) (by kernel_rfl) (by kernel_rfl) (fun _ _ _ h => h) (Or.inl ⟨by rfl, (by intro w' hSw; go_simp; first | done | rfl)⟩) (unhide HS0) ?_
              go_simp
              refine wpAnyH_take (i := 5) (oi := _) (v := .slice ia m ic) rfl (by kernel_rfl) (by kernel_rfl) (by kernel_rfl) (fun _ _ _ h => h) (Or.inl ⟨by rfl, (by intro w' hSw; obtain ⟨q0, q1, q2, q3, q4, q5⟩ := unhide HCX w' hSw; go_simp; first | done | rfl)⟩) (unhide HS0) ?_
              go_simp
              refine wpAnyH_take (i := 6) (oi := _) (v := .slice (some ⟨ob, oo, none⟩) L oc) rfl (by kernel_rfl) (by kernel_rfl) (by kernel_rfl) (fun _ _ _ h => h) (Or.inl ⟨by rfl, (by intro w' hSw; go_simp; first | done | rfl)⟩) (unhide HS0) ?_
              go_simp
              refine wpAnyH_take (i := 7) (oi := _) (v := .int .i64 (n : Int)) rfl (by kernel_rfl) (by kernel_rfl) (by kernel_rfl) (fun _ _ _ h => h) (Or.inl ⟨by rfl, (by intro w' hSw; go_simp; first | done | rfl)⟩) (unhide HS0) ?_
              go_simp
              refine wpAnyH_take (i := 8) (oi := _) (v := .pointer (some ⟨ob, oo + n, none⟩)) rfl (by kernel_rfl) (by kernel_rfl) (by kernel_rfl) (fun _ _ _ h => h) (Or.inl ⟨by rfl, (by intro w' hSw; go_simp; first | done | rfl)⟩) (unhide HS0) ?_
              go_simp
              refine wpAnyH_take (i := 9) (oi := _) (v := .slice (some ⟨g, 0, none⟩) m m) rfl (by kernel_rfl) (by kernel_rfl) (by kernel_rfl) (fun _ _ _ h => h) (Or.inl ⟨by rfl, (by intro w' hSw; obtain ⟨q0, q1, q2, q3, q4, q5⟩ := unhide HCX w' hSw; go_simp; first | done | rfl)⟩) (unhide HS0) ?_
              go_simp
              refine wpAnyH_take (i := 10) (oi := _) (v := .int .i64 (r : Int)) rfl (by kernel_rfl) (by kernel_rfl) (by kernel_rfl) (fun _ _ _ h => h) (Or.inl ⟨by rfl, (by intro w' hSw; go_simp; first | done | rfl)⟩) (unhide HS0) ?_
              go_simp
              refine wpAnyH_ready (rs := [11]) (by kernel_rfl) (by simp) ?_
              refine AllReadyH.cons (o := _) rfl (fun K hK => ?_) AllReadyH.nil
              go_simp
              refine (unhide HAL).mono ?_
              rintro e Y3 ⟨rfl, b3⟩
              have HS3 : Hid (Below Z.heap.size Z Y3) := (unhide HS0).trans (b3.mono (unhide HS0).size)
              clear b3 HAL HS0
              refine hK.out _ _ (unhide HS3) (fun _ => ?_)
              clear hK K
              go_simp
              refine wpAnyH_take (i := 12) (oi := _) (v := .int .i64 (A : Int)) rfl (by kernel_rfl) (by kernel_rfl) (by kernel_rfl) (fun _ _ _ h => h) (Or.inl ⟨by rfl, (by intro w' hSw; go_simp; first | done | rfl)⟩) (unhide HS3) ?_
              go_simp
              refine wpAnyH_done (by kernel_rfl) ?_ _
              have HM3 := hide ((unhide HM2).on (unhide HS3))
              clear HM2 HCX HS3 hM
              by_cases hA1 : A = 1
              · have HR1 : Hid (ST = true) := (unhide hS).yes hr (unhide hC2).2.2 (unhide HU1) (unhide HMB) (unhide HT) (by rw [unhide hA]; exact hA1)
                have HBW := hide (unhide HM3).nr.bel
                subst hA1
                clear HM3 hS
                go_wp2_with fail
                first | go_ret | go_end0
                exact ⟨by rw [unhide HR1]; rfl, unhide HBW⟩
              · by_cases hA0 : A = 0
                · have HS2 : Hid (MS bl r ST (wtf (wl.set n true)) (wk ++ [n]) k (u1.nx.take (j + 1))) := unhide HNX _ _ (by rw [unhide HWT]; exact (unhide hS).zero (unhide hC2).2.2 (unhide HU1) (unhide HMB) (unhide HT) (by rw [unhide hA]; exact hA0))
                  have hwk8 : wk.length ≤ 1048577 := by have h1 := (unhide hC2).1; have h2 := unhide HKK; omega
                  obtain ⟨ya, yc, w1, a1, a2⟩ := (unhide HM3).push (unhide hC2).2.1 (by omega) n
                  have HRUN := hide a1
                  have HM4 := hide a2
                  have hwn8 : wn ≤ 1048577 := by rw [(unhide hC2).2.1]; exact hwk8
                  have HC3 : Hid (unv (wl.set n true) + (wk ++ [n]).length ≤ C ∧ wn + 1 = (wk ++ [n]).length ∧ (wk ++ [n])[k]? = some b1) := by
                    have h1 := unhide hC2
                    have h2 := unhide HUV
                    have h3 := (List.getElem?_eq_some_iff.1 h1.2.2).1
                    refine ⟨by rw [List.length_append]; simp; omega, by rw [List.length_append, h1.2.1]; rfl, ?_⟩
                    rw [List.getElem?_append_left h3]; exact h1.2.2
                  subst hA0
                  clear a1 a2 hS HM3 hA1
                  go_wp2_with (first | (at_builtin; refine wpList_appRunC rfl _ _ rfl rfl rfl (unhide HRUN) ?_))
                  go_roundg (gk - 1)
                  case measure => have := unhide hj; omega
                  case rel => exact ⟨j + 1, _, _, _, _, _, 0, hjn, HC3, by go_num, rfl, rfl, HM4, HS2⟩
                · have hA2 : A = 2 := by omega
                  have HS2 : Hid (MS bl r ST (wtf (wl.set n true)) wk k (u1.nx.take (j + 1))) := unhide HNX _ _ (by rw [unhide HWT]; exact (unhide hS).two (unhide HT) (by rw [unhide hA]; exact hA2))
                  have HC3 : Hid (unv (wl.set n true) + wk.length ≤ C ∧ wn = wk.length ∧ wk[k]? = some b1) := by
                    have h1 := unhide hC2
                    have h2 := unhide HUV
                    exact ⟨by omega, h1.2⟩
                  subst hA2
                  clear hS hA1 hA0
                  go_wp2_with fail
                  go_roundg (gk - 1)
                  case measure => have := unhide hj; omega
                  case rel => exact ⟨j + 1, _, _, _, _, _, 2, hjn, HC3, by go_num, rfl, rfl, HM3, HS2⟩
        · have hjN : j = NL := by have := unhide hj; omega
          have j1 : ¬ (j : Int) < (NL : Int) := by omega
          have HS2 : Hid (MS bl r ST (wtf wl) wk (k + 1) []) := (unhide hS).next (unhide hC2).2.2 (unhide HU1) (List.take_of_length_le (by rw [unhide hNL]; omega))
          have hkl : k < wk.length := (List.getElem?_eq_some_iff.1 (unhide hC2).2.2).1
          have HQ : Hid (unv wl + wk.length = (unv wl + wk.length - (k + 1)) + (k + 1) ∧ k + 1 ≤ wk.length ∧ unv wl + wk.length ≤ L + 1 ∧ wn = wk.length ∧ wk ≠ []) := by
            have h1 := unhide hC2
            have h2 := unhide HKK
            exact ⟨by omega, by omega, by omega, h1.2.1, by intro e; rw [e] at hkl; simp at hkl⟩
          have hkk8 : k ≤ 1048577 := by have h2 := unhide HKK; omega
          clear hS hjN
          go_wp2_with fail
          go_roundg (unv wl + wk.length - (k + 1))
          case measure => have h1 := unhide hC2; have h2 := unhide HKK; have h3 := unhide hGO; omega
          case rel => exact ⟨k + 1, _, _, _, _, _, _, HQ, by go_num, rfl, rfl, hM, HS2⟩
    · have k1 : ¬ (k : Int) < (wn : Int) := by omega
      have HR1 : Hid (ST = false) := (unhide hS).no (by have := unhide hk; omega) (unhide hk).2.2.2.2
      have HBW := hide (unhide hM).nr.bel
      clear hM hS
      go_wp2_with fail
      first | go_ret | go_end0
      exact ⟨by rw [unhide HR1]; rfl, unhide HBW⟩
end Go.Proofs.YtpbdmbmafjkinaaDoor
