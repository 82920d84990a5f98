/-
  verify.Program.
-/
import Derived.Test.YtlogmdldjmkkjaaGreatDoorVOkf
namespace Go.Proofs.YtlogmdldjmkkjaaGreatDoor
open Go.RowKit
set_option linter.unusedVariables false
set_option linter.unusedSimpArgs false
theorem vcsG_ne : ∀ {l pre : List Cn} {a y : Int}, csG pre l = some (a, y) → y ≠ 0
  | [], _, _, _, h => by cases h
  | c :: r, pre, a, y, h => by
    rw [csG] at h
    split at h
    · cases h; decide
    · split at h
      · cases h; decide
      · split at h
        · cases h; decide
        · exact vcsG_ne h
theorem vcdG_ne {p : Pg} {f : Fc} : ∀ {l : List (Int × Int)} {i : Nat} {a y : Int}, cdG p f l i = some (a, y) → y ≠ 0
  | [], _, _, _, h => by cases h
  | (op, x) :: r, i, a, y, h => by
    rw [cdG] at h
    split at h
    · rename_i q; cases h; exact q
    · split at h
      · cases h; decide
      · exact vcdG_ne h
theorem vhsG_ne {n : Int} : ∀ {l : List Hd} {i : Nat} {a y : Int}, hsG n l i = some (a, y) → y ≠ 0
  | [], _, _, _, h => by cases h
  | k :: r, i, a, y, h => by
    rw [hsG] at h
    split at h
    · exact vhsG_ne h
    · cases h; decide
theorem vfnF_ne {p : Pg} {f : Fc} {m t : Bool} {a y : Int} (h : fnF p f m t = some (a, y)) : y ≠ 0 := by
  unfold fnF at h
  cases h1 : nmF f.name t with
  | some e =>
    rw [h1] at h
    cases h
    unfold nmF at h1
    split at h1
    · cases h1; decide
    · split at h1
      · cases h1; decide
      · split at h1
        · cases h1; decide
        · cases h1
  | none =>
    rw [h1] at h
    simp only [orE] at h
    cases h2 : szF f m with
    | some e =>
      rw [h2] at h
      cases h
      unfold szF at h2
      split at h2
      · cases h2; decide
      · split at h2
        · cases h2; decide
        · split at h2
          · cases h2; decide
          · split at h2
            · cases h2; decide
            · cases h2
    | none =>
      rw [h2] at h
      simp only [orE] at h
      cases h3 : cdF p f with
      | some e =>
        rw [h3] at h
        cases h
        exact vcdG_ne h3
      | none =>
        rw [h3] at h
        simp only [orE] at h
        unfold hsF at h
        split at h
        · cases h; decide
        · exact vhsG_ne h
theorem vfsG_ne {p : Pg} : ∀ {l pre : List Fc} {k a y : Int}, fsG p pre l = some (k, a, y) → y ≠ 0
  | [], _, _, _, _, h => by cases h
  | f :: r, pre, k, a, y, h => by
    rw [fsG] at h
    split at h
    · rename_i e he
      obtain ⟨a', y'⟩ := e
      cases h
      exact vfnF_ne he
    · exact vfsG_ne h
theorem vckF_ne {p : Pg} {k a y : Int} (h : ckF p = some (k, a, y)) : y ≠ 0 := by
  unfold ckF at h
  split at h
  · rename_i e he
    obtain ⟨a', y'⟩ := e
    cases h
    unfold csF at he
    split at he
    · cases he; decide
    · exact vcsG_ne he
  · split at h
    · cases h; decide
    · split at h
      · cases h; decide
      · exact vfsG_ne h
theorem step_appM {w : World} {ops : Array Oper} {o : Oper} {a : Act} {K : Act → World → Prop} {Q : Exit → Act → World → Prop} {E : Prop} (hgd : o.guard = none) (s x : Operand)
    (ho : o.op = .call { callee := .builtin .append, args := #[s, x], argTypes := #[55, 55] }) (v : Value) (n : Nat) (l : List Value) (hs : a.eval s = v) (hr : Ro w 1 v n l) (ad : Addr) (c : Nat) (k : Int) (hx : a.eval x = .slice (some ad) 1 c)
    (hnews : ∀ j u, (enN k)[j]? = some u → w.cell? (ad.add j) = some u) (hN : n ≤ 4398046511103)
    (h : ∀ v' w', Ro w' 1 v' (n + 1) (l ++ enN k) → w.grownBy w' v.ownBlock → (v'.ownBlock = v.ownBlock ∨ v'.ownBlock = some w.heap.size) → K (a.put o.dst v') w') :
    if Region.wanted o (yielded ops a.tmps) = true then Oper.wp Tryz.prog o a w K Q else E := by
  rw [if_pos (by simp [Region.wanted, hgd])]
  obtain ⟨i0, hi0, hz0, hz1, hz2⟩ := info_parts Tryz.info3
  obtain ⟨v', w', hrun, k2, k3, k5⟩ := Ro.app (P := Tryz.prog) 55 o.type 3 i0 _ 1 8 Tryz.underlying55 hi0 hz0 hz1 hz2 rfl (by decide) hr ad 1 c (enN k) rfl hnews (by simp [enN, Value.oneCell']) (by omega) (by unfold maxLen; omega) (by omega)
  unfold Oper.wp
  simp [execOp, ho, resolve, invoke, builtin, hs, hx, hrun, Result.andThen]
  exact h v' w' k2 k3 k5
theorem B2.new (w : World) (u v : Value) (t : TypeId) : Ro (w.alloc (.cells #[u, v] t)) 2 (.slice (some ⟨w.heap.size, 0, none⟩) 1 1) 1 [u, v] :=
  ⟨rfl, .inr ⟨w.heap.size, 0, 1, #[u, v], t, rfl, heap_alloc_new _ _, by omega, by unfold maxLen; omega, by simp, fun j hj => by simp⟩⟩
theorem B2.new' (w : World) (u v : Value) (t : TypeId) {n : Nat} (hn : w.heap.size = n) : Ro (w.alloc (.cells #[u, v] t)) 2 (.slice (some ⟨n, 0, none⟩) 1 1) 1 [u, v] := hn ▸ B2.new w u v t
theorem B2.cells {w : World} {b : Nat} {u v : Value} (h : Ro w 2 (.slice (some ⟨b, 0, none⟩) 1 1) 1 [u, v]) : w.cell? ⟨b, 0, none⟩ = some u ∧ w.cell? ⟨b, 1, none⟩ = some v := by
  obtain ⟨b', off', c', e, _, _, hb, hc⟩ := h.full (by omega)
  cases e
  have h0 := hc 0 (by omega)
  have h1 := hc 1 (by omega)
  rw [Nat.zero_add] at h0 h1
  exact ⟨h0, h1⟩
theorem B2.put {w : World} {b : Nat} {u v : Value} (h : Ro w 2 (.slice (some ⟨b, 0, none⟩) 1 1) 1 [u, v]) (u' v' : Value) : Ro (w.setCells b 0 [u', v']) 2 (.slice (some ⟨b, 0, none⟩) 1 1) 1 [u', v'] := by
  refine (Ro.sets h rfl (o := 0) (m := 1) (vs := [u', v']) (ys := [u', v']) (by omega) (by simp) (by omega) rfl (fun j hj => ?_) (fun j hj q => by omega)).1
  rw [if_pos (by simp; omega)]
  congr 1
  omega
theorem results_mix {fn : Func} {p q r : Tmp} {t1 t2 : TypeId} (h : fn.results = #[.cell p t1, .cell q t2, .tmp r]) (tmps : Array Value) (P : Program) (w : World) {a1 a2 : Addr} {v1 v2 : Value} (e1 : tmps[p]?.getD undef = .pointer (some a1)) (e2 : tmps[q]?.getD undef = .pointer (some a2)) (l1 : (loadVar t1 a1).run P w = .ok v1 w) (l2 : (loadVar t2 a2).run P w = .ok v2 w) :
    (results fn tmps).run P w = .ok (.tuple #[v1, v2, tmps.getD r undef]) w := by
  simp only [results, h]
  simp [Sem.run_bind, Result.andThen, asAddr, e1, e2, l1, l2]
theorem load30 {w : World} {b : Nat} {u v : Value} (h : Ro w 2 (.slice (some ⟨b, 0, none⟩) 1 1) 1 [u, v]) : (loadVar 57 ⟨b, 0, none⟩).run Tryz.prog w = .ok (.agg #[u, v]) w := by
  obtain ⟨h0, h1⟩ := B2.cells h
  have lb := World.block_lt_of_cell? _ _ h0
  clear h
  go_simp
theorem load32 {w : World} {b : Nat} {u v : Value} (h : Ro w 2 (.slice (some ⟨b, 0, none⟩) 1 1) 1 [u, v]) : (loadVar 46 ⟨b, 0, none⟩).run Tryz.prog w = .ok (.agg #[u, v]) w := by
  obtain ⟨h0, h1⟩ := B2.cells h
  have lb := World.block_lt_of_cell? _ _ h0
  clear h
  go_simp
theorem two_put {w W : World} {b c : Nat} {u v x y : Value} (h1 : Ro W 2 (.slice (some ⟨b, 0, none⟩) 1 1) 1 [u, v]) (h2 : Ro W 2 (.slice (some ⟨c, 0, none⟩) 1 1) 1 [x, y]) (hne : b ≠ c) (hB : Below w.heap.size w W) (hb : w.heap.size ≤ b) (hc : w.heap.size ≤ c) (u' v' x' y' : Value) :
    Ro ((W.setCells b 0 [u', v']).setCells c 0 [x', y']).drew 2 (.slice (some ⟨b, 0, none⟩) 1 1) 1 [u', v'] ∧ Ro ((W.setCells b 0 [u', v']).setCells c 0 [x', y']).drew 2 (.slice (some ⟨c, 0, none⟩) 1 1) 1 [x', y'] ∧ Below w.heap.size w ((W.setCells b 0 [u', v']).setCells c 0 [x', y']).drew := by
  have f1 := setcells_fr W b 0 [u', v']
  have f2 := setcells_fr (W.setCells b 0 [u', v']) c 0 [x', y']
  have f3 : Fr (fun _ => False) ((W.setCells b 0 [u', v']).setCells c 0 [x', y']) ((W.setCells b 0 [u', v']).setCells c 0 [x', y']).drew := (Fr.refl _ _).drew
  refine ⟨((B2.put h1 u' v').fr f2 (fun k hk e => ?_)).fr f3 (fun _ _ e => e), (B2.put (h2.fr f1 (fun k hk e => ?_)) x' y').fr f3 (fun _ _ e => e), ?_⟩
  · simp [Value.ownBlock] at hk; omega
  · simp [Value.ownBlock] at hk; omega
  · exact ((hB.trans (f1.below hB.size (fun k hk e => by omega))).trans (f2.below (Nat.le_trans hB.size f1.size) (fun k hk e => by omega))).trans (f3.below (Nat.le_trans (Nat.le_trans hB.size f1.size) f2.size) (fun _ _ e => e))
theorem two_put0 {w W : World} {b c : Nat} {u v x y : Value} (h1 : Ro W 2 (.slice (some ⟨b, 0, none⟩) 1 1) 1 [u, v]) (h2 : Ro W 2 (.slice (some ⟨c, 0, none⟩) 1 1) 1 [x, y]) (hne : b ≠ c) (hB : Below w.heap.size w W) (hb : w.heap.size ≤ b) (hc : w.heap.size ≤ c) (u' v' x' y' : Value) :
    Ro ((W.setCells b 0 [u', v']).setCells c 0 [x', y']) 2 (.slice (some ⟨b, 0, none⟩) 1 1) 1 [u', v'] ∧ Ro ((W.setCells b 0 [u', v']).setCells c 0 [x', y']) 2 (.slice (some ⟨c, 0, none⟩) 1 1) 1 [x', y'] ∧ Below w.heap.size w ((W.setCells b 0 [u', v']).setCells c 0 [x', y']) ∧ Fr (fun k => k = b ∨ k = c) W ((W.setCells b 0 [u', v']).setCells c 0 [x', y']) := by
  have f1 := setcells_fr W b 0 [u', v']
  have f2 := setcells_fr (W.setCells b 0 [u', v']) c 0 [x', y']
  refine ⟨(B2.put h1 u' v').fr f2 (fun k hk e => ?_), B2.put (h2.fr f1 (fun k hk e => ?_)) x' y', ?_, (f1.mono (fun _ _ e => .inl e)).step f2 (fun _ _ e => .inr e)⟩
  · simp [Value.ownBlock] at hk; omega
  · simp [Value.ownBlock] at hk; omega
  · exact (hB.trans (f1.below hB.size (fun k hk e => by omega))).trans (f2.below (Nat.le_trans hB.size f1.size) (fun k hk e => by omega))
/-- Facts that can be read. -/
def FcR (B : Nat) (w : World) (hv mv : Value) (Ls : List (List Int)) : Prop :=
  ∃ vs, Ro w 1 hv Ls.length vs ∧ (∀ (i : Nat) (l : List Int) (u : Value), Ls[i]? = some l → vs[i]? = some u → Ro w 1 u l.length (flt enN l) ∧ ∀ k, u.ownBlock = some k → B ≤ k) ∧ Ro w 1 mv Ls.length (flt enN (Ls.map mxl)) ∧ (∀ k, hv.ownBlock = some k → B ≤ k) ∧ ∀ k, mv.ownBlock = some k → B ≤ k
/-- Facts that can be read and written: no two rows in one block. -/
def FcA (B : Nat) (w : World) (hv mv : Value) (Ls : List (List Int)) : Prop :=
  ∃ vs, (Ro w 1 hv Ls.length vs ∧ (∀ (i : Nat) (l : List Int) (u : Value), Ls[i]? = some l → vs[i]? = some u → Ro w 1 u l.length (flt enN l) ∧ ∀ k, u.ownBlock = some k → B ≤ k) ∧ Ro w 1 mv Ls.length (flt enN (Ls.map mxl)) ∧ (∀ k, hv.ownBlock = some k → B ≤ k) ∧ ∀ k, mv.ownBlock = some k → B ≤ k) ∧
    (∀ (i j : Nat) (u v : Value) (k : Nat), i ≠ j → vs[i]? = some u → vs[j]? = some v → u.ownBlock = some k → v.ownBlock ≠ some k) ∧ (∀ (i : Nat) (u : Value) (k : Nat), vs[i]? = some u → u.ownBlock = some k → hv.ownBlock ≠ some k ∧ mv.ownBlock ≠ some k) ∧ ∀ k, hv.ownBlock = some k → mv.ownBlock ≠ some k
theorem FcA.fcr {B : Nat} {w : World} {hv mv : Value} {Ls : List (List Int)} (h : FcA B w hv mv Ls) : FcR B w hv mv Ls := by
  obtain ⟨vs, h, _⟩ := h
  exact ⟨vs, h⟩
set_option maxRecDepth 100000 in
set_option maxHeartbeats 6400000 in
theorem program_anyA {w : World} {pv : Value} {p : Pg} (hp : PgV w pv p) (hok : OkP p) (hg : Laid w) :
    Calls Tryz.prog 24 #[pv] w fun e w' => ∃ fa L k a er, e = .returned (.tuple #[fa, .agg #[.int .i64 k, .int .i64 a], .int .i64 er]) ∧ VpR p L k a er ∧ Below w.heap.size w w' ∧ (L = none → fa = .agg #[.slice none 0 0, .slice none 0 0]) ∧ ∀ Ls, L = some Ls → ∃ hv mv, fa = .agg #[hv, mv] ∧ FcA w.heap.size w' hv mv Ls := by
  have gl : 0 < w.heap.size := World.block_lt_of_cell? _ _ hg
  have HPV := hide hp
  obtain ⟨cv, fv, rfl, hc, hf⟩ := hp
  obtain ⟨_, ca, ccap, rfl, _, _, _⟩ := hc
  have HFS := hide hf
  obtain ⟨fa, fcap, rfl, hfl, hfm, hat⟩ := hf.at
  obtain ⟨NC, hNC⟩ : ∃ n, Hid (p.consts.length = n) := ⟨_, rfl⟩
  obtain ⟨NF, hNF⟩ : ∃ n, Hid (p.funcs.length = n) := ⟨_, rfl⟩
  rw [unhide hNF] at hfl
  unfold maxLen at hfm
  rw [unhide hNC, unhide hNF] at HPV
  rw [unhide hNC, unhide hNF]
  obtain ⟨W3, eW3⟩ : ∃ W3, W3 = ((w.alloc (.cells #[.slice ca NC ccap, .slice fa NF fcap] 25)).alloc (.cells #[.slice none 0 0, .slice none 0 0] 57)).alloc (.cells #[.int .i64 0, .int .i64 0] 46) := ⟨_, rfl⟩
  obtain ⟨t1, t2, t3, t4, t5⟩ := three_boxes w #[.slice ca NC ccap, .slice fa NF fcap] #[.slice none 0 0, .slice none 0 0] #[.int .i64 0, .int .i64 0] 25 57 46
  rw [← eW3] at t1 t2 t3 t4 t5
  have HG3 : Laid W3 := (t4.cell (p := ⟨0, 0, none⟩) gl).trans hg
  have HC := hide (pCheck_any ((unhide HPV).below t4 (Nat.le_refl _)) hok HG3)
  have HB3 := hide t4
  have HT := hide (And.intro t1 (And.intro t2 t3))
  have HAT := hide hat
  clear t1 t2 t3 t4 HG3 hat hf
  go_enter Tryz.func24, Tryz.ntmps24
  go_wp2_with fail
  rw [← eW3]
  refine (unhide HC).mono ?_
  rintro e W4 ⟨rfl, hb4⟩
  have r2 : Ro W3 2 (.slice (some ⟨w.heap.size + 1, 0, none⟩) 1 1) 1 [.slice none 0 0, .slice none 0 0] := by
    rw [eW3]; exact (B2.new' (w.alloc (.cells #[.slice ca NC ccap, .slice fa NF fcap] 25)) _ _ _ (by simp)).fr (S := fun _ => False) ((Fr.refl _ _).alloc _) (fun _ _ e => e)
  have r3 : Ro W3 2 (.slice (some ⟨w.heap.size + 1 + 1, 0, none⟩) 1 1) 1 [.int .i64 0, .int .i64 0] := by
    rw [eW3]; exact B2.new' _ _ _ _ (by simp)
  have r1 : Ro W3 2 (.slice (some ⟨w.heap.size, 0, none⟩) 1 1) 1 [.slice ca NC ccap, .slice fa NF fcap] := by
    rw [eW3]; exact ((B2.new w _ _ _).fr (S := fun _ => False) ((Fr.refl _ _).alloc _) (fun _ _ e => e)).fr (S := fun _ => False) ((Fr.refl _ _).alloc _) (fun _ _ e => e)
  have R1 := hide (r1.keep (fun g hg => hb4.block g (r1.lt g hg)))
  have R2 := hide (r2.keep (fun g hg => hb4.block g (r2.lt g hg)))
  have R3 := hide (r3.keep (fun g hg => hb4.block g (r3.lt g hg)))
  have HB4 : Hid (Below w.heap.size w W4) := (unhide HB3).trans (hb4.mono (unhide HB3).size)
  have hs4 := hb4.size
  rw [t5] at hs4
  clear r1 r2 r3 hb4 HC HT eW3
  cases hck : ckF p with
  | some o =>
    obtain ⟨k, a, y⟩ := o
    have hy := vckF_ne hck
    have HV : Hid (VpR p none k a y) := .inl ⟨y, hck, rfl, rfl, hy⟩
    obtain ⟨W5, eW5⟩ : ∃ W5, W5 = W4.alloc (.cells #[.int .i64 k, .int .i64 a] 46) := ⟨_, rfl⟩
    have f5 : Fr (fun _ => False) W4 W5 := by rw [eW5]; exact (Fr.refl _ _).alloc _
    have q5 : Ro W5 2 (.slice (some ⟨W4.heap.size, 0, none⟩) 1 1) 1 [.int .i64 k, .int .i64 a] := by rw [eW5]; exact B2.new _ _ _ _
    have q2 := (unhide R2).fr f5 (fun _ _ e => e)
    have q3 := (unhide R3).fr f5 (fun _ _ e => e)
    have HB5 : Hid (Below w.heap.size w W5) := (unhide HB4).trans (f5.below (unhide HB4).size (fun _ _ e => e))
    obtain ⟨g0, g1⟩ := B2.cells q5
    obtain ⟨m0, m1⟩ := B2.cells q2
    obtain ⟨n0, n1⟩ := B2.cells q3
    have z20 := q2.free rfl 0
    have z21 := q2.free rfl 1
    have z30 := q3.free rfl 0
    have z31 := q3.free rfl 1
    have l5 := World.block_lt_of_cell? _ _ g0
    have l2 := World.block_lt_of_cell? _ _ m0
    have l3 := World.block_lt_of_cell? _ _ n0
    have d2 : Hid (¬ W4.heap.size = w.heap.size + 1) := by unfold Hid; omega
    have d3 : Hid (¬ W4.heap.size = w.heap.size + 1 + 1) := by unfold Hid; omega
    have hyb : (y == 0) = false := by simpa using hy
    have Q2 := hide q2
    have Q3 := hide q3
    have hSt1 : Fr (fun k => k = w.heap.size + 1 ∨ k = w.heap.size + 1 + 1) W5 (W5.drew.setCells (w.heap.size + 1) 0 [.slice none 0 0, .slice none 0 0]) := (Fr.refl (fun k => k = w.heap.size + 1 ∨ k = w.heap.size + 1 + 1) W5).drew.step (setcells_fr _ _ _ _) (fun _ _ e => .inl e)
    have hSt2 : Fr (fun k => k = w.heap.size + 1 ∨ k = w.heap.size + 1 + 1) W5 ((W5.drew.setCells (w.heap.size + 1) 0 [.slice none 0 0, .slice none 0 0]).setCells (w.heap.size + 1 + 1) 0 [.int .i64 k, .int .i64 a]) := hSt1.step (setcells_fr _ _ _ _) (fun _ _ e => .inr e)
    clear f5 q5 q2 q3 hck HFS HAT
    simp only [rsV]
    go_wp2_with fail
    rw [← eW5]
    clear eW5
    refine wp_region_held_drew (S := (fun wx => Fr (fun k => k = w.heap.size + 1 ∨ k = w.heap.size + 1 + 1) W5 wx)) (by kernel_rfl) ((Fr.refl _ W5).drew) (fun hHeld => ?_)
    refine wpAnyH_take (i := 0) (oi := _) (v := .agg #[.slice none 0 0, .slice none 0 0]) rfl (by kernel_rfl) (by kernel_rfl) (by kernel_rfl) (fun _ _ _ h => h) (Or.inl ⟨by rfl, (by intro w hSw; go_simp)⟩) (by assumption) ?_
    go_simp
    refine wpAnyH_take (i := 1) (oi := _) (v := .agg #[.int .i64 k, .int .i64 a]) rfl (by kernel_rfl) (by kernel_rfl) (by kernel_rfl) (fun _ _ _ h => h) (Or.inl ⟨by rfl, (by intro w hSw; have q0 := (hSw.cell (a := ⟨W4.heap.size, 0, none⟩) l5 (fun e => e.elim (fun q => unhide d2 q) (fun q => unhide d3 q))).trans g0; have q1 := (hSw.cell (a := ⟨W4.heap.size, 1, none⟩) l5 (fun e => e.elim (fun q => unhide d2 q) (fun q => unhide d3 q))).trans g1; have l52 := Nat.lt_of_lt_of_le l5 hSw.size; go_simp)⟩) (by assumption) ?_
    go_simp
    refine wpAnyH_take (i := 2) (oi := _) (v := .int .i64 y) rfl (by kernel_rfl) (by kernel_rfl) (by kernel_rfl) (fun _ _ _ h => h) (Or.inl ⟨by rfl, (by intro w hSw; go_simp)⟩) (by assumption) ?_
    go_simp
    refine wpAnyH_ready (rs := [3]) (by kernel_rfl) (by simp) ?_
    refine AllReadyH.cons (o := _) rfl (fun K hK => ?_) AllReadyH.nil
    go_simp
    refine hK.out _ _ (hSt1) (fun hHeld3x => ?_)
    clear hK K
    refine wpAnyH_ready (rs := [4]) (by kernel_rfl) (by simp) ?_
    refine AllReadyH.cons (o := _) rfl (fun K hK => ?_) AllReadyH.nil
    go_simp
    refine hK.out _ _ (hSt2) (fun hHeld4x => ?_)
    clear hK K
    refine wpAnyH_take (i := 5) (oi := _) (v := .int .i64 y) rfl (by kernel_rfl) (by kernel_rfl) (by kernel_rfl) (fun _ _ _ h => h) (Or.inl ⟨by rfl, (by intro w hSw; go_simp)⟩) (by assumption) ?_
    go_simp
    refine wpAnyH_done (by kernel_rfl) ?_ _
    obtain ⟨WE, eWE⟩ : ∃ WE, WE = ((W5.setCells (w.heap.size + 1) 0 [.slice none 0 0, .slice none 0 0]).setCells (w.heap.size + 1 + 1) 0 [.int .i64 k, .int .i64 a]).drew := ⟨_, rfl⟩
    change Exit.then _ _ _ _ (((W5.setCells (w.heap.size + 1) 0 [.slice none 0 0, .slice none 0 0]).setCells (w.heap.size + 1 + 1) 0 [.int .i64 k, .int .i64 a]).drew)
    obtain ⟨E2, E3, BE⟩ := two_put (unhide Q2) (unhide Q3) (by omega) (unhide HB5) (by omega) (by omega) (.slice none 0 0) (.slice none 0 0) (.int .i64 k) (.int .i64 a)
    rw [← eWE] at E2 E3 BE ⊢
    have HE2 := hide E2
    have HE3 := hide E3
    clear eWE E2 E3 hSt1 hSt2 g0 g1 m0 m1 n0 n1 z20 z21 z30 z31 l5 l2 l3 hHeld
    go_wp2_with fail
    (try simp only [Exit.inBlock, Exit.then])
    refine bodyPost_ret (results_mix rfl _ _ _ rfl rfl (load30 (unhide HE2)) (load32 (unhide HE3))) rfl ?_
    exact ⟨_, none, _, _, _, rfl, unhide HV, BE, fun _ => rfl, fun Ls e => by cases e⟩
  | none =>
    obtain ⟨W5, eW5⟩ : ∃ W5, W5 = W4.alloc (.cells #[.int .i64 0, .int .i64 0] 46) := ⟨_, rfl⟩
    have f5 : Fr (fun _ => False) W4 W5 := by rw [eW5]; exact (Fr.refl _ _).alloc _
    have hFS := FS.first W5
    obtain ⟨W6, eW6⟩ : ∃ W6, W6 = W5.alloc (.cells #[.slice none 0 0, .slice none 0 0] 57) := ⟨_, rfl⟩
    obtain ⟨qb, eqb⟩ : ∃ qb, qb = W5.heap.size := ⟨_, rfl⟩
    rw [← eW6, ← eqb] at hFS
    have q1 := (unhide R1).fr f5 (fun _ _ e => e)
    have q2 := (unhide R2).fr f5 (fun _ _ e => e)
    have q3 := (unhide R3).fr f5 (fun _ _ e => e)
    have hs5 : W5.heap.size = W4.heap.size + 1 := by rw [eW5]; simp
    have HB5 : Hid (Below w.heap.size w W5) := (unhide HB4).trans (f5.below (unhide HB4).size (fun _ _ e => e))
    have Q1 := hide q1
    have Q2 := hide q2
    have Q3 := hide q3
    have HFS6 := hide hFS
    have b1 := hFS.bl.cell (p := ⟨w.heap.size, 1, none⟩) (q1.lt _ rfl) |>.trans (B2.cells q1).2
    have lb1 := World.block_lt_of_cell? _ _ b1
    have b14 := (B2.cells (unhide R1)).2
    have lb14 := World.block_lt_of_cell? _ _ b14
    have HCK := hide hck
    have hNFm : NF ≤ 128 := by rw [← unhide hNF]; exact (ckF_none.1 hck).2.2.1
    clear f5 q1 q2 q3 hFS hck R1 R2 R3
    simp only [rsV]
    rw [eW5] at eqb eW6
    simp only [World.size_alloc] at eqb
    go_wp2_with fail
    rw [← eqb, ← eW6]
    clear b14 lb14 eW5 eqb eW6 b1 lb1
    go_loopg [26] NF (fun gg t26 wi => ∃ (i : Nat), Hid (i + gg = NF) ∧ t26 = .int .i64 (i : Int) ∧ Hid (∃ hv mv vs L, FS W5 qb hv mv vs L L wi ∧ L.length = i ∧ ∀ (j : Nat) (f : Fc) (l : List Int), p.funcs[j]? = some f → L[j]? = some l → FnR f (some l) 0 0))
    case atStart => exact ⟨0, by unfold Hid; omega, rfl, _, _, _, _, unhide HFS6, rfl, fun j f l _ h => by simp at h⟩
    case round =>
      obtain ⟨i, hi, rfl, hF⟩ := hrel
      obtain ⟨hv, mv, vs, L, hF1, hL, hFn⟩ := unhide hF
      have HF1 := hide hF1
      have HLL := hide hL
      have HFN := hide hFn
      have hB5w : Below W5.heap.size W5 wr := hF1.bl
      have HBW : Hid (Below w.heap.size w wr) := (unhide HB5).trans (hB5w.mono (unhide HB5).size)
      have i0 : (0 : Int) ≤ (i : Int) := by omega
      clear hF hF1 hL hFn HFS6
      by_cases hlt : i < NF
      · have i1 : (i : Int) < (NF : Int) := by omega
        obtain ⟨f, hf⟩ : ∃ f, p.funcs[i]? = some f := ⟨_, List.getElem?_eq_getElem (by rw [unhide hNF]; exact hlt)⟩
        obtain ⟨b, off, x, rfl, hb, hx, cs⟩ := unhide HAT i f hf
        have k0 := (unhide HBW).cell (p := ⟨b, off + i * 5 + 0, none⟩) hb |>.trans (cs 0 _ rfl)
        have k1 := (unhide HBW).cell (p := ⟨b, off + i * 5 + 1, none⟩) hb |>.trans (cs 1 _ rfl)
        have k2 := (unhide HBW).cell (p := ⟨b, off + i * 5 + 2, none⟩) hb |>.trans (cs 2 _ rfl)
        have k3 := (unhide HBW).cell (p := ⟨b, off + i * 5 + 3, none⟩) hb |>.trans (cs 3 _ rfl)
        have k4 := (unhide HBW).cell (p := ⟨b, off + i * 5 + 4, none⟩) hb |>.trans (cs 4 _ rfl)
        rw [Nat.add_zero] at k0
        have lk := World.block_lt_of_cell? _ _ k0
        have hok' := OkF.of (unhide HCK) hf
        obtain ⟨Wa, eWa⟩ : ∃ Wa, Wa = wr.alloc (.cells #[.string x.name, .int .i64 x.params, .int .i64 x.locals, x.cv, x.hv] 73) := ⟨_, rfl⟩
        have fa1 : Below wr.heap.size wr Wa := by rw [eWa]; exact (Below.refl _ _).alloc (Nat.le_refl _) _
        have HFa := hide ((unhide HF1).keep fa1)
        have hBa : Below w.heap.size w Wa := (unhide HBW).trans (fa1.mono (unhide HBW).size)
        have HCF := hide (function_any hok' (hx.below hBa (Nat.le_refl _)))
        obtain ⟨_, ca2, cc2, ecv, _, _, _⟩ := hx.2.2.2.1
        obtain ⟨_, ha2, hc2, ehv, _, _, _⟩ := hx.2.2.2.2
        have HI := hide hf
        have HN1 := hide hok'.n1
        obtain ⟨nm, pr, lc, cv', hv'⟩ := x
        simp only at ecv ehv k0 k1 k2 k3 k4 eWa HCF
        subst ecv ehv
        clear cs hx hok' fa1 hBa hf hB5w
        go_wp2_with fail
        rw [← eWa]
        refine (unhide HCF).mono ?_
        rintro e Wb ⟨u, pl, er, ht, rfl, hR, hBb, hnone, hsome⟩
        have HFb := hide ((unhide HFa).keep hBb)
        have hbw : Below w.heap.size w Wb := (unhide HB5).trans ((unhide HFb).bl.mono (unhide HB5).size)
        have p2 := (unhide Q2).keep (fun g hg => (unhide HFb).bl.block g ((unhide Q2).lt g hg))
        have p3 := (unhide Q3).keep (fun g hg => (unhide HFb).bl.block g ((unhide Q3).lt g hg))
        cases ht with
        | none =>
          have her : er ≠ 0 := by
            rcases hR with h | h | h
            · rw [h.1]; decide
            · rw [h.1]; decide
            · obtain ⟨_, h1, _⟩ := h.2.2.2.2; cases h1
          have HV : Hid (VpR p none (i : Int) pl er) := .inr (.inl ⟨unhide HCK, i, f, unhide HI, rfl, rfl, her, hR, fun j g hj hg => by
            have hl := unhide HLL
            exact ⟨_, unhide HFN j g _ hg (List.getElem?_eq_getElem (by omega))⟩⟩)
          have hu := hnone rfl
          subst hu
          have hyb : (er == 0) = false := by simpa using her
          obtain ⟨m0, m1⟩ := B2.cells p2
          obtain ⟨n0, n1⟩ := B2.cells p3
          have z20 := p2.free rfl 0
          have z21 := p2.free rfl 1
          have z30 := p3.free rfl 0
          have z31 := p3.free rfl 1
          have l2 := World.block_lt_of_cell? _ _ m0
          have l3 := World.block_lt_of_cell? _ _ n0
          obtain ⟨E2, E3, BE, _⟩ := two_put0 p2 p3 (by omega) hbw (by omega) (by omega) (.slice none 0 0) (.slice none 0 0) (.int .i64 (i : Int)) (.int .i64 pl)
          have HE2 := hide E2
          have HE3 := hide E3
          have HBE := hide BE
          clear hR hBb hnone hsome p2 p3 E2 E3 BE hbw k0 k1 k2 k3 k4 lk HCF HFa HFb
          go_wp2_with fail
          (try simp only [Exit.inBlock, Exit.then])
          refine bodyPost_ret (results_mix rfl _ _ _ rfl rfl (load30 (unhide HE2)) (load32 (unhide HE3))) rfl ?_
          exact ⟨_, none, _, _, _, rfl, unhide HV, unhide HBE, fun _ => rfl, fun Ls e => by cases e⟩
        | some l =>
          have HRR0 := hide hR
          have hz : er = 0 ∧ pl = 0 ∧ l.length = f.code.length := by
            rcases hR with h | h | h
            · cases h.2.1
            · cases h.2.1
            · obtain ⟨_, h1, h2, _⟩ := h.2.2.2.2; cases h1; exact ⟨h.1, h.2.1, h2⟩
          obtain ⟨rfl, rfl, hll⟩ := hz
          have HRR := HRR0
          clear HRR0
          obtain ⟨hu, huf⟩ := hsome l rfl
          obtain ⟨ua, uc, eu, _, _⟩ := hu.shape
          subst eu
          obtain ⟨ha, hcap, eh, _, _⟩ := (unhide HFb).hr.shape
          obtain ⟨ma, mc, em, _, _⟩ := (unhide HFb).mr.shape
          subst eh em
          obtain ⟨mn, hLn⟩ : ∃ mn, Hid (L.length = mn) := ⟨_, rfl⟩
          have hmb : mn < 1000 := by have := unhide HLL; rw [← unhide hLn]; omega
          have HFb : Hid (FS W5 qb (.slice ha mn hcap) (.slice ma mn mc) vs L L Wb) := by rw [← unhide hLn]; exact HFb
          have c0 := (unhide HFb).c0
          have fz0 := (unhide HFb).fz 0
          have lq := (unhide HFb).lt
          have hHR := (unhide HFb).hr
          have HHR : Hid (Ro (Wb.alloc (.cells #[.slice ua l.length uc] 55)) 1 (.slice ha mn hcap) mn vs) := by
            have := hHR.keep (w' := Wb.alloc (.cells #[.slice ua l.length uc] 55)) (fun g hg => Below.heap_alloc _ _ _ (hHR.lt g hg))
            rw [unhide hLn] at this
            exact this
          have huF : ∀ k, (Value.slice ua l.length uc).ownBlock = some k → W5.heap.size ≤ k ∧ k ≠ qb ∧ (Value.slice ha mn hcap).ownBlock ≠ some k ∧ (Value.slice ma mn mc).ownBlock ≠ some k := fun k hk => by
            have h1 := huf k hk
            have h2 := (unhide HFa).bl.size
            have h3 := (unhide HFa).lt
            exact ⟨by omega, by omega, fun e => by have := (unhide HFa).hr.lt k (by rw [unhide hLn]; exact e); omega, fun e => by have := (unhide HFa).mr.lt k (by rw [unhide hLn]; exact e); omega⟩
          have HU := hide hu
          have HUF := hide huF
          have HUQ : Hid (∀ (j : Nat) (v : Value) (k : Nat), vs[j]? = some v → v.ownBlock = some k → (Value.slice ua l.length uc).ownBlock ≠ some k) := fun j v k hv hk e => by
            have h1 := huf k e
            have h2 := (unhide HFa).rowlt hv hk
            omega
          have hn1 := unhide HN1
          have HN0 : Hid (0 < l.length) := by unfold Hid; omega
          clear hR hBb hnone hsome p2 p3 hbw k0 k1 k2 k3 k4 lk HCF HFa hu huf huF hHR hll
          have HNC : Hid (∀ j u', [Value.slice ua l.length uc][j]? = some u' → (Wb.alloc (.cells #[.slice ua l.length uc] 55)).cell? ((⟨Wb.heap.size, 0, none⟩ : Addr).add j) = some u') := new_cells Wb #[.slice ua l.length uc] 55
          go_wp2_with (first | (at_builtin; refine wpList_appL rfl _ _ rfl (.slice ha mn hcap) mn vs rfl (unhide HHR) ⟨Wb.heap.size, 0, none⟩ 1 (.slice ua l.length uc) rfl rfl (unhide HNC) (by omega) ?_; intro v4 w4 hr4 hg4 hat4; obtain ⟨va4, vc4, ev4, _, _⟩ := hr4.shape; subst ev4; obtain ⟨y0, yz0, HF6⟩ := (unhide HFb).pushH (l := l) (unhide HU) (unhide HUF) (unhide HUQ) (by rw [unhide hLn]; exact hr4) hg4 (by simpa using hat4); have ly0 := World.block_lt_of_cell? _ _ y0; clear hr4 hg4 hat4))
          obtain ⟨W7, eW7⟩ : ∃ W7, W7 = w4.setCell ⟨qb, 0, none⟩ (.slice va4 (mn + 1) vc4) := ⟨_, rfl⟩
          rw [← eW7] at HF6 ⊢
          obtain ⟨m, hm⟩ : ∃ m, Hid (mxl l = m) := ⟨_, rfl⟩
          have hln2 : L.length + 1 = mn + 1 := by rw [unhide hLn]
          have HF7 := hide ((unhide HF6).keep (Go.Proofs.YtlogmdldjmkkjaaGreatDoor.Below.drewN (Below.refl _ W7) 1))
          have hul := (unhide HF6).el mn l (.slice ua l.length uc) (by rw [← unhide hLn]; simp) (by have := (unhide HFb).hr.1; rw [Nat.mul_one, unhide hLn] at this; rw [← this]; simp)
          have HMX := hide (max_any (w := W7.drew) (Rx.of_ro (hul.1.fr (S := fun _ => False) (Fr.refl _ W7).drew (fun _ _ e => e))) (unhide HN0))
          rw [unhide hm] at HMX
          have hMR := (unhide HF7).mr
          have HMR : Hid (Ro (W7.drew.alloc (.cells #[.int .i64 m] 3)) 1 (.slice ma mn mc) mn (flt enN (L.map mxl))) := by
            have := hMR.keep (w' := W7.drew.alloc (.cells #[.int .i64 m] 3)) (fun g hg => Below.heap_alloc _ _ _ (hMR.lt g hg))
            rw [unhide hLn] at this
            exact this
          have c1 := (unhide HF6).c1
          have lq7 := World.block_lt_of_cell? _ _ c1
          clear eW7 y0 yz0 ly0 c0 fz0 lq hul hMR hln2 HHR HNC HU HUF HFb
          go_wp2_with fail
          refine wp_region_held_drew (S := (fun wx => True)) (by kernel_rfl) (trivial) (fun hHeld => ?_)
          refine wpAnyH_take (i := 0) (oi := _) (v := .pointer (some ⟨qb, 1, none⟩)) rfl (by kernel_rfl) (by kernel_rfl) (by kernel_rfl) (fun _ _ _ h => h) (Or.inl ⟨by rfl, (by intro w hSw; go_simp)⟩) (by assumption) ?_
          go_simp
          refine wpAnyH_take (i := 2) (oi := _) (v := .slice ua l.length uc) rfl (by kernel_rfl) (by kernel_rfl) (by kernel_rfl) (fun _ _ _ h => h) (Or.inl ⟨by rfl, (by intro w hSw; go_simp)⟩) (by assumption) ?_
          go_simp
          refine wpAnyH_ready (rs := [1, 3]) (by kernel_rfl) (by simp) ?_
          refine AllReadyH.cons (o := _) rfl (fun K hK => ?_) (AllReadyH.cons (o := _) rfl (fun K hK => ?_) AllReadyH.nil)
          · go_simp
            refine hK.out _ _ (trivial) (fun hHeld1x => ?_)
            clear hK K
            go_simp
            refine wpAnyH_ready (rs := [3]) (by kernel_rfl) (by simp) ?_
            refine AllReadyH.cons (o := _) rfl (fun K hK => ?_) AllReadyH.nil
            go_simp
            refine (unhide HMX).mono ?_
            rintro e Wm ⟨rfl, eWm⟩
            subst eWm
            refine hK.out _ _ (trivial) (fun hHeld3x => ?_)
            clear hK K
            go_simp
            refine wpAnyH_ready (rs := [4]) (by kernel_rfl) (by simp) ?_
            refine AllReadyH.cons (o := _) rfl (fun K hK => ?_) AllReadyH.nil
            go_simp
            refine hK.out _ _ (trivial) (fun hHeld4x => ?_)
            clear hK K
            go_simp
            refine wpAnyH_ready (rs := [5]) (by kernel_rfl) (by simp) ?_
            refine AllReadyH.cons (o := _) rfl (fun K hK => ?_) AllReadyH.nil
            refine step_appM rfl _ _ rfl (.slice ma mn mc) mn (flt enN (L.map mxl)) rfl (unhide HMR) ⟨W7.heap.size, 0, none⟩ 1 m rfl (by exact new_cells W7.drew #[_] 3) (by omega) ?_
            intro v5 w5 hr5 hg5 hat5
            obtain ⟨va5, vc5, ev5, _, _⟩ := hr5.shape
            subst ev5
            obtain ⟨y1, yz, HF8⟩ := (unhide HF7).pushM (l := l) (by rw [unhide hLn, unhide hm]; exact hr5) hg5 (by simpa using hat5)
            have ly := World.block_lt_of_cell? _ _ y1
            clear hr5 hg5 hat5
            refine hK.out _ _ (trivial) (fun hHeld5x => ?_)
            clear hK K
            go_simp
            refine wpAnyH_take (i := 6) (oi := _) (v := .pointer (some ⟨qb, 1, none⟩)) rfl (by kernel_rfl) (by kernel_rfl) (by kernel_rfl) (fun _ _ _ h => h) (Or.inl ⟨by rfl, (by intro w hSw; go_simp)⟩) (by assumption) ?_
            go_simp
            refine wpAnyH_ready (rs := [7]) (by kernel_rfl) (by simp) ?_
            refine AllReadyH.cons (o := _) rfl (fun K hK => ?_) AllReadyH.nil
            go_simp
            refine hK.out _ _ (trivial) (fun hHeld7x => ?_)
            clear hK K
            refine wpAnyH_done (by kernel_rfl) ?_ _
            clear y1 yz ly
            obtain ⟨W9, eW9⟩ : ∃ W9, W9 = w5.setCell ⟨qb, 1, none⟩ (.slice va5 (mn + 1) vc5) := ⟨_, rfl⟩
            rw [← eW9] at HF8 ⊢
            have HR : Hid (∃ hv mv vs L, FS W5 qb hv mv vs L L W9 ∧ L.length = i + 1 ∧ ∀ (j : Nat) (f : Fc) (l : List Int), p.funcs[j]? = some f → L[j]? = some l → FnR f (some l) 0 0) := by
              refine ⟨_, _, _, L ++ [l], unhide HF8, by rw [List.length_append, unhide HLL]; rfl, fun j f' l' hf' hl' => ?_⟩
              have hln := unhide HLL
              by_cases hj : j < i
              · rw [List.getElem?_append_left (by omega)] at hl'
                exact unhide HFN j f' l' hf' hl'
              · rw [List.getElem?_append_right (by omega)] at hl'
                have e1 : j - L.length = 0 := by
                  have := (List.getElem?_eq_some_iff.1 hl').1
                  simp at this; omega
                rw [e1] at hl'
                simp at hl'
                subst hl'
                have e2 : j = i := by omega
                subst e2
                rw [unhide HI] at hf'
                cases hf'
                exact unhide HRR
            clear eW9
            go_wp2_with fail
            go_roundg (gk - 1)
            case measure => have := unhide hi; omega
            case rel => exact ⟨i + 1, by have := unhide hi; unfold Hid; omega, by go_num, HR⟩
          · go_simp
            refine (unhide HMX).mono ?_
            rintro e Wm ⟨rfl, eWm⟩
            subst eWm
            refine hK.out _ _ (trivial) (fun hHeld3x => ?_)
            clear hK K
            go_simp
            refine wpAnyH_ready (rs := [1, 4]) (by kernel_rfl) (by simp) ?_
            refine AllReadyH.cons (o := _) rfl (fun K hK => ?_) (AllReadyH.cons (o := _) rfl (fun K hK => ?_) AllReadyH.nil)
            · go_simp
              refine hK.out _ _ (trivial) (fun hHeld1x => ?_)
              clear hK K
              go_simp
              refine wpAnyH_ready (rs := [4]) (by kernel_rfl) (by simp) ?_
              refine AllReadyH.cons (o := _) rfl (fun K hK => ?_) AllReadyH.nil
              go_simp
              refine hK.out _ _ (trivial) (fun hHeld4x => ?_)
              clear hK K
              go_simp
              refine wpAnyH_ready (rs := [5]) (by kernel_rfl) (by simp) ?_
              refine AllReadyH.cons (o := _) rfl (fun K hK => ?_) AllReadyH.nil
              refine step_appM rfl _ _ rfl (.slice ma mn mc) mn (flt enN (L.map mxl)) rfl (unhide HMR) ⟨W7.heap.size, 0, none⟩ 1 m rfl (by exact new_cells W7.drew #[_] 3) (by omega) ?_
              intro v5 w5 hr5 hg5 hat5
              obtain ⟨va5, vc5, ev5, _, _⟩ := hr5.shape
              subst ev5
              obtain ⟨y1, yz, HF8⟩ := (unhide HF7).pushM (l := l) (by rw [unhide hLn, unhide hm]; exact hr5) hg5 (by simpa using hat5)
              have ly := World.block_lt_of_cell? _ _ y1
              clear hr5 hg5 hat5
              refine hK.out _ _ (trivial) (fun hHeld5x => ?_)
              clear hK K
              go_simp
              refine wpAnyH_take (i := 6) (oi := _) (v := .pointer (some ⟨qb, 1, none⟩)) rfl (by kernel_rfl) (by kernel_rfl) (by kernel_rfl) (fun _ _ _ h => h) (Or.inl ⟨by rfl, (by intro w hSw; go_simp)⟩) (by assumption) ?_
              go_simp
              refine wpAnyH_ready (rs := [7]) (by kernel_rfl) (by simp) ?_
              refine AllReadyH.cons (o := _) rfl (fun K hK => ?_) AllReadyH.nil
              go_simp
              refine hK.out _ _ (trivial) (fun hHeld7x => ?_)
              clear hK K
              refine wpAnyH_done (by kernel_rfl) ?_ _
              clear y1 yz ly
              obtain ⟨W9, eW9⟩ : ∃ W9, W9 = w5.setCell ⟨qb, 1, none⟩ (.slice va5 (mn + 1) vc5) := ⟨_, rfl⟩
              rw [← eW9] at HF8 ⊢
              have HR : Hid (∃ hv mv vs L, FS W5 qb hv mv vs L L W9 ∧ L.length = i + 1 ∧ ∀ (j : Nat) (f : Fc) (l : List Int), p.funcs[j]? = some f → L[j]? = some l → FnR f (some l) 0 0) := by
                refine ⟨_, _, _, L ++ [l], unhide HF8, by rw [List.length_append, unhide HLL]; rfl, fun j f' l' hf' hl' => ?_⟩
                have hln := unhide HLL
                by_cases hj : j < i
                · rw [List.getElem?_append_left (by omega)] at hl'
                  exact unhide HFN j f' l' hf' hl'
                · rw [List.getElem?_append_right (by omega)] at hl'
                  have e1 : j - L.length = 0 := by
                    have := (List.getElem?_eq_some_iff.1 hl').1
                    simp at this; omega
                  rw [e1] at hl'
                  simp at hl'
                  subst hl'
                  have e2 : j = i := by omega
                  subst e2
                  rw [unhide HI] at hf'
                  cases hf'
                  exact unhide HRR
              clear eW9
              go_wp2_with fail
              go_roundg (gk - 1)
              case measure => have := unhide hi; omega
              case rel => exact ⟨i + 1, by have := unhide hi; unfold Hid; omega, by go_num, HR⟩
            · go_simp
              refine hK.out _ _ (trivial) (fun hHeld4x => ?_)
              clear hK K
              go_simp
              refine wpAnyH_ready (rs := [1]) (by kernel_rfl) (by simp) ?_
              refine AllReadyH.cons (o := _) rfl (fun K hK => ?_) AllReadyH.nil
              go_simp
              refine hK.out _ _ (trivial) (fun hHeld1x => ?_)
              clear hK K
              go_simp
              refine wpAnyH_ready (rs := [5]) (by kernel_rfl) (by simp) ?_
              refine AllReadyH.cons (o := _) rfl (fun K hK => ?_) AllReadyH.nil
              refine step_appM rfl _ _ rfl (.slice ma mn mc) mn (flt enN (L.map mxl)) rfl (unhide HMR) ⟨W7.heap.size, 0, none⟩ 1 m rfl (by exact new_cells W7.drew #[_] 3) (by omega) ?_
              intro v5 w5 hr5 hg5 hat5
              obtain ⟨va5, vc5, ev5, _, _⟩ := hr5.shape
              subst ev5
              obtain ⟨y1, yz, HF8⟩ := (unhide HF7).pushM (l := l) (by rw [unhide hLn, unhide hm]; exact hr5) hg5 (by simpa using hat5)
              have ly := World.block_lt_of_cell? _ _ y1
              clear hr5 hg5 hat5
              refine hK.out _ _ (trivial) (fun hHeld5x => ?_)
              clear hK K
              go_simp
              refine wpAnyH_take (i := 6) (oi := _) (v := .pointer (some ⟨qb, 1, none⟩)) rfl (by kernel_rfl) (by kernel_rfl) (by kernel_rfl) (fun _ _ _ h => h) (Or.inl ⟨by rfl, (by intro w hSw; go_simp)⟩) (by assumption) ?_
              go_simp
              refine wpAnyH_ready (rs := [7]) (by kernel_rfl) (by simp) ?_
              refine AllReadyH.cons (o := _) rfl (fun K hK => ?_) AllReadyH.nil
              go_simp
              refine hK.out _ _ (trivial) (fun hHeld7x => ?_)
              clear hK K
              refine wpAnyH_done (by kernel_rfl) ?_ _
              clear y1 yz ly
              obtain ⟨W9, eW9⟩ : ∃ W9, W9 = w5.setCell ⟨qb, 1, none⟩ (.slice va5 (mn + 1) vc5) := ⟨_, rfl⟩
              rw [← eW9] at HF8 ⊢
              have HR : Hid (∃ hv mv vs L, FS W5 qb hv mv vs L L W9 ∧ L.length = i + 1 ∧ ∀ (j : Nat) (f : Fc) (l : List Int), p.funcs[j]? = some f → L[j]? = some l → FnR f (some l) 0 0) := by
                refine ⟨_, _, _, L ++ [l], unhide HF8, by rw [List.length_append, unhide HLL]; rfl, fun j f' l' hf' hl' => ?_⟩
                have hln := unhide HLL
                by_cases hj : j < i
                · rw [List.getElem?_append_left (by omega)] at hl'
                  exact unhide HFN j f' l' hf' hl'
                · rw [List.getElem?_append_right (by omega)] at hl'
                  have e1 : j - L.length = 0 := by
                    have := (List.getElem?_eq_some_iff.1 hl').1
                    simp at this; omega
                  rw [e1] at hl'
                  simp at hl'
                  subst hl'
                  have e2 : j = i := by omega
                  subst e2
                  rw [unhide HI] at hf'
                  cases hf'
                  exact unhide HRR
              clear eW9
              go_wp2_with fail
              go_roundg (gk - 1)
              case measure => have := unhide hi; omega
              case rel => exact ⟨i + 1, by have := unhide hi; unfold Hid; omega, by go_num, HR⟩
      · have hiN : i = NF := by have := unhide hi; omega
        subst hiN
        have hi1 : ¬ (i : Int) < (i : Int) := by omega
        have HV : Hid (VpR p (some L) 0 0 0) := .inr (.inr ⟨unhide HCK, rfl, rfl, rfl, L, rfl, by rw [unhide HLL, unhide hNF], unhide HFN⟩)
        have p2 := (unhide Q2).keep (fun g hg => hB5w.block g ((unhide Q2).lt g hg))
        have p3 := (unhide Q3).keep (fun g hg => hB5w.block g ((unhide Q3).lt g hg))
        obtain ⟨m0, m1⟩ := B2.cells p2
        obtain ⟨n0, n1⟩ := B2.cells p3
        have z20 := p2.free rfl 0
        have z21 := p2.free rfl 1
        have z30 := p3.free rfl 0
        have z31 := p3.free rfl 1
        have l2 := World.block_lt_of_cell? _ _ m0
        have l3 := World.block_lt_of_cell? _ _ n0
        have c0 := (unhide HF1).c0
        have c1 := (unhide HF1).c1
        have lq := (unhide HF1).lt
        obtain ⟨E2, E3, BE, FE⟩ := two_put0 p2 p3 (by omega) (unhide HBW) (by omega) (by omega) hv mv (.int .i64 0) (.int .i64 0)
        have HE2 := hide E2
        have HE3 := hide E3
        have HBE := hide BE
        have hno : ∀ k, W5.heap.size ≤ k → ¬ (k = w.heap.size + 1 ∨ k = w.heap.size + 1 + 1) := fun k hk e => by omega
        have hB5s := (unhide HB5).size
        have HFC : Hid (FcA w.heap.size ((wr.setCells (w.heap.size + 1) 0 [hv, mv]).setCells (w.heap.size + 1 + 1) 0 [.int .i64 0, .int .i64 0]) hv mv L) := ⟨vs, ⟨(unhide HF1).hr.fr FE (fun k hk => hno k ((unhide HF1).ho k hk).1), fun j l u h1 h2 => ⟨((unhide HF1).el j l u h1 h2).1.fr FE (fun k hk => hno k (((unhide HF1).el j l u h1 h2).2 k hk).1), fun k hk => Nat.le_trans hB5s (((unhide HF1).el j l u h1 h2).2 k hk).1⟩, (unhide HF1).mr.fr FE (fun k hk => hno k ((unhide HF1).mo k hk).1), fun k hk => Nat.le_trans hB5s ((unhide HF1).ho k hk).1, fun k hk => Nat.le_trans hB5s ((unhide HF1).mo k hk).1⟩, (unhide HF1).ap, fun i u k h1 h2 => by
          have hl := (unhide HF1).hr.1
          have hi := (List.getElem?_eq_some_iff.1 h1).1
          have hi2 : i < L.length := by omega
          exact ((unhide HF1).el i _ u (List.getElem?_eq_getElem hi2) h1).2 k h2 |>.2.2, fun k hk => ((unhide HF1).ho k hk).2.2⟩
        obtain ⟨ha, hcap, eh, _, _⟩ := (unhide HF1).hr.shape
        obtain ⟨ma, mc, em, _, _⟩ := (unhide HF1).mr.shape
        subst eh em
        clear p2 p3 E2 E3 BE FE hno hB5w
        go_wp2_with fail
        (try simp only [Exit.inBlock, Exit.then])
        refine bodyPost_ret (results_mix rfl _ _ _ rfl rfl (load30 (unhide HE2)) (load32 (unhide HE3))) rfl ?_
        exact ⟨_, some L, _, _, _, rfl, unhide HV, unhide HBE, (fun e => by cases e), fun Ls e => by cases e; exact ⟨_, _, rfl, unhide HFC⟩⟩
theorem program_any {w : World} {pv : Value} {p : Pg} (hp : PgV w pv p) (hok : OkP p) (hg : Laid w) :
    Calls Tryz.prog 24 #[pv] w fun e w' => ∃ fa L k a er, e = .returned (.tuple #[fa, .agg #[.int .i64 k, .int .i64 a], .int .i64 er]) ∧ VpR p L k a er ∧ Below w.heap.size w w' ∧ (L = none → fa = .agg #[.slice none 0 0, .slice none 0 0]) ∧ ∀ Ls, L = some Ls → ∃ hv mv, fa = .agg #[hv, mv] ∧ FcR w.heap.size w' hv mv Ls :=
  (program_anyA hp hok hg).mono fun e w' ⟨fa, L, k, a, er, h1, h2, h3, h4, h5⟩ => ⟨fa, L, k, a, er, h1, h2, h3, h4, fun Ls hL => by
    obtain ⟨hv, mv, e, q⟩ := h5 Ls hL
    exact ⟨hv, mv, e, q.fcr⟩⟩
end Go.Proofs.YtlogmdldjmkkjaaGreatDoor
