/-
  addField, SetField.
-/
import Derived.Test.YtkpngfahnpidkaaRDel
namespace Go.Proofs.Ytkpngfahnpidkaa
open Go.RowKit
set_option linter.unusedVariables false
set_option linter.unusedSimpArgs false

/-- append of one key. -/
theorem wpList_appK {w : World} {ops : Array Oper} {rest : List Oper} {o : Oper} {a : Act} {Q : Exit → Act → World → Prop}
    (hg : o.guard = none) (s x : Operand) (hop : o.op = Op.call { callee := Callee.builtin Builtin.append, args := #[s, x], argTypes := #[49, 49] })
    (v : Value) (l : List Int) (hs : a.eval s = v) (hr : Ro w 1 v l.length (kcells l)) (ad : Addr) (c : Nat) (k : Int) (hx : a.eval x = .slice (some ad) 1 c) (hc : ∀ j u, [Value.int .i64 k][j]? = some u → w.cell? (ad.add j) = some u)
    (hN : l.length ≤ 8000000000000)
    (hK : ∀ v' w', Ro w' 1 v' (l ++ [k]).length (kcells (l ++ [k])) → w.grownBy w' v.ownBlock → (v'.ownBlock = v.ownBlock ∨ v'.ownBlock = some w.heap.size) → wpList Try.prog ops Q rest (a.put o.dst v') w') :
    wpList Try.prog ops Q (o :: rest) a w := by
  obtain ⟨i0, hi0, hz0, hz1, hz2⟩ := info_parts Try.info2
  refine wpList_app hg s x 49 hop 2 i0 _ 1 8 Try.underlying49 hi0 hz0 hz1 hz2 rfl (by decide) v l.length (kcells l) hs hr ad 1 c [.int .i64 k] hx rfl hc (by simp [Value.oneCell']) (by omega) (by unfold maxLen; omega) (by omega) (fun v' w' r1 r2 r3 => hK v' w' ?_ r2 r3)
  rw [show kcells (l ++ [k]) = kcells l ++ [.int .i64 k] by simp [kcells], List.length_append]
  exact r1
theorem Now.join {w w1 w2 : World} {h : Nat} {bud sp sp1 sp2 : Int} {ov ov1 : Value} {os os1 os2 : List OD} (f1 : Fr (Fts h ov os) w w1) (F1 : ∀ k, Fts h ov1 os1 k → Fts h ov os k ∨ w.heap.size ≤ k) (N : Now w1 h bud sp1 ov1 os1 w2 sp2 os2) : Now w h bud sp ov os w2 sp2 os2 := by
  obtain ⟨ov2, H2, f2, F2⟩ := N
  have hs := f1.size
  refine ⟨ov2, H2, ⟨f2.os.trans f1.os, f2.tape.trans f1.tape, f2.output.trans f1.output, Nat.le_trans hs f2.size, fun k hk hn => ?_⟩, fun k hk => ?_⟩
  · rw [f2.block k (by omega) (fun e => ?_)]
    · exact f1.block k hk hn
    · rcases F1 k e with q | q
      · exact hn q
      · omega
  · rcases F2 k hk with q | q
    · exact F1 k q
    · exact .inr (by omega)
theorem Hp.turnIv {w w' : World} {h : Nat} {bud sp : Int} {ov : Value} {os : List OD} (H : Hp w h bud sp ov os) {i : Nat} {o : OD} (ho : os[i]? = some o) (f : Fr (fun k => o.iv.ownBlock = some k) w w') {l : List (Int × Int)} (hr : Ro w' 2 o.iv l.length (flat l)) :
    Now w h bud sp ov os w' sp (os.set i { o with its := l }) := by
  have hok := H.ok i o ho
  obtain ⟨n1, n2, n3⟩ := H.one ho
  have hb : o.b < w.heap.size := hok.lt _ (.inl rfl)
  have hok' : ({ o with its := l } : OD).ok w' := ⟨hok.kind, fun j u hu => (f.cell (a := ⟨o.b, j, none⟩) hb n1).trans (hok.cell j u hu), fun j => (f.frozen (a := ⟨o.b, j, none⟩) hb n1).trans (hok.free j), hr, hok.keys.fr f (fun k hk e => n3 k e hk), hok.plain⟩
  obtain ⟨a1, a2, a3⟩ := H.turn (o' := { o with its := l }) ho (f.mono (fun k _ e => .inr (.inl e))) rfl rfl hok' (.inl rfl) (.inl rfl) n3
  exact ⟨ov, a1, a2, a3⟩
set_option maxRecDepth 100000 in
set_option maxHeartbeats 6400000 in
theorem addf_full {w : World} {h : Nat} {bud sp : Int} {ov : Value} {os : List OD} (H : Hp w h bud sp ov os) (hb : 0 ≤ bud ∧ bud < 4611686018427387904) (hs : 0 ≤ sp ∧ sp ≤ bud) {i : Nat} {o : OD} (ho : os[i]? = some o) (hk : o.k = 7) (key xk xn : Int) (hf : 256 ≤ o.keys.length) :
    Calls Try.prog 37 #[.pointer (some ⟨h, 0, none⟩), .pointer (some ⟨o.b, 0, none⟩), .int .i64 key, .agg #[.int .i64 xk, .int .i64 xn]] w fun e w' => e = .returned (.tuple #[.int .i64 8, .bool true]) ∧ Below w.heap.size w w' := by
  have hB : Below w.heap.size w (w.alloc (.cells #[.int .i64 xk, .int .i64 xn] 33)) := (Below.refl _ _).alloc (Nat.le_refl _) _
  have H0 := H.below hB
  have hok := H0.ok _ _ ho
  obtain ⟨c0, c1⟩ := rec_cells hok hk
  obtain ⟨ka, kcap, ke, kcl, kcm⟩ := hok.keys.shape
  rw [ke] at c0
  have hbl : o.b < (w.alloc (.cells #[.int .i64 xk, .int .i64 xn] 33)).heap.size := hok.lt _ (.inl rfl)
  have hl := H.hlt
  have HB := hide hB
  have d1 : decide ((o.keys.length : Int) ≥ 256) = true := decide_eq_true (by omega)
  clear H H0 hok hB ke c1
  go_enter Try.func37, Try.ntmps37
  go_wp2_with fail
  go_ret2
  exact ⟨rfl, unhide HB⟩
set_option maxRecDepth 100000 in
set_option maxHeartbeats 6400000 in
theorem addf_no {w : World} {h : Nat} {bud sp : Int} {ov : Value} {os : List OD} (H : Hp w h bud sp ov os) (hb : 0 ≤ bud ∧ bud < 4611686018427387904) (hs : 0 ≤ sp ∧ sp ≤ bud) {i : Nat} {o : OD} (ho : os[i]? = some o) (hk : o.k = 7) (key xk xn : Int) (hf : o.keys.length < 256) (hr : bud - sp < 2) :
    Calls Try.prog 37 #[.pointer (some ⟨h, 0, none⟩), .pointer (some ⟨o.b, 0, none⟩), .int .i64 key, .agg #[.int .i64 xk, .int .i64 xn]] w fun e w' => e = .returned (.tuple #[.int .i64 0, .bool false]) ∧ Below w.heap.size w w' := by
  have hB : Below w.heap.size w (w.alloc (.cells #[.int .i64 xk, .int .i64 xn] 33)) := (Below.refl _ _).alloc (Nat.le_refl _) _
  have H0 := H.below hB
  have hok := H0.ok _ _ ho
  obtain ⟨c0, c1⟩ := rec_cells hok hk
  obtain ⟨ka, kcap, ke, kcl, kcm⟩ := hok.keys.shape
  rw [ke] at c0
  have hbl : o.b < (w.alloc (.cells #[.int .i64 xk, .int .i64 xn] 33)).heap.size := hok.lt _ (.inl rfl)
  have hl := H.hlt
  have HB := hide hB
  have d1 : decide ((o.keys.length : Int) ≥ 256) = false := decide_eq_false (by omega)
  have HS := hide (spend_no H0 (by omega) (by omega) 2 (.inr hr))
  have hsz : Hid (w.heap.size ≤ (w.alloc (.cells #[.int .i64 xk, .int .i64 xn] 33)).heap.size) := hB.size
  clear H H0 hok hB ke c1
  go_enter Try.func37, Try.ntmps37
  go_wp2_with fail
  refine (unhide HS).mono ?_
  rintro e1 w1 ⟨rfl, nk, rfl⟩
  go_wp2_with fail
  go_ret2
  exact ⟨rfl, (unhide HB).trans ((Fr.drewN (S := fun _ => False) nk).below (unhide hsz) (fun _ _ e => e))⟩
set_option maxRecDepth 100000 in
set_option maxHeartbeats 6400000 in
theorem addf_ok {w : World} {h : Nat} {bud sp : Int} {ov : Value} {os : List OD} (H : Hp w h bud sp ov os) (hb : 0 ≤ bud ∧ bud < 4611686018427387904) (hs : 0 ≤ sp ∧ sp ≤ bud) {i : Nat} {o : OD} (ho : os[i]? = some o) (hk : o.k = 7) (key xk xn : Int) (hf : o.keys.length < 256) (hlen : o.its.length = o.keys.length) (hr : 2 ≤ bud - sp) :
    Calls Try.prog 37 #[.pointer (some ⟨h, 0, none⟩), .pointer (some ⟨o.b, 0, none⟩), .int .i64 key, .agg #[.int .i64 xk, .int .i64 xn]] w fun e w' => e = .returned (.tuple #[.int .i64 0, .bool true]) ∧ ∃ v1 v2, Now w h bud sp ov os w' (sp + 2) (os.set i { o with kv := v1, keys := o.keys ++ [key], iv := v2, its := o.its ++ [(xk, xn)] }) := by
  have hB : Below w.heap.size w (w.alloc (.cells #[.int .i64 xk, .int .i64 xn] 33)) := (Below.refl _ _).alloc (Nat.le_refl _) _
  have H0 := H.below hB
  have hok := H0.ok _ _ ho
  obtain ⟨c0, c1⟩ := rec_cells hok hk
  obtain ⟨ka, kcap, ke, kcl, kcm⟩ := hok.keys.shape
  rw [ke] at c0
  have hbl : o.b < (w.alloc (.cells #[.int .i64 xk, .int .i64 xn] 33)).heap.size := hok.lt _ (.inl rfl)
  have hl := H.hlt
  have HB := hide hB
  have d1 : decide ((o.keys.length : Int) ≥ 256) = false := decide_eq_false (by omega)
  have HS := hide (spend_ok H0 (by omega) (by omega) 2 (by omega) hr)
  have HX := hide (two_new w (.int .i64 xk) (.int .i64 xn) 33)
  have hz0 : Hid ((w.alloc (.cells #[.int .i64 xk, .int .i64 xn] 33)).heap.size = w.heap.size + 1) := by unfold Hid; simp
  have HLT := hide H.lt
  have HO := hide ho
  have HK7 := hide hk
  have HLEN := hide hlen
  clear H H0 hok hB ke c1 hlen ho hk
  go_enter Try.func37, Try.ntmps37
  go_wp2_with fail
  refine (unhide HS).mono ?_
  rintro e1 w2 ⟨rfl, H2, f2, hz2⟩
  have nFS : ∀ q, w.heap.size ≤ q → ¬ Fts h ov os q := fun q hq e => by have := unhide HLT q e; omega
  obtain ⟨x0, x1⟩ := Bx.fr (b := w.heap.size) (unhide HX) f2 (nFS _ (Nat.le_refl _))
  have hok2 := H2.ok _ _ (unhide HO)
  obtain ⟨c02, c12⟩ := rec_cells hok2 (unhide HK7)
  obtain ⟨ka2, kc2, ke2, kcl2, kcm2⟩ := hok2.keys.shape
  rw [ke2] at c02
  have hbl2 : o.b < w2.heap.size := hok2.lt _ (.inl rfl)
  have hx2 : w.heap.size < w2.heap.size := World.block_lt_of_cell? _ _ x0
  have HRK : Hid (Ro w2 1 (.slice ka2 o.keys.length kc2) o.keys.length (kcells o.keys)) := by have := hok2.keys; rw [ke2] at this; exact this
  have HF2 := hide f2
  have KE2 := hide ke2
  have HH2 := hide H2
  have NFS := hide nFS
  clear H2 f2 hz2 nFS hok2 ke2 c12 c0 hbl
  go_wp2_with (first | (at_builtin; refine wpList_appK rfl _ _ rfl (.slice ka2 o.keys.length kc2) o.keys rfl ((unhide HRK).keep (fun g hg => Below.heap_alloc _ _ _ ((unhide HRK).lt g hg))) ⟨w2.heap.size, 0, none⟩ 1 key rfl (one_new _ _ _) (by omega) ?_))
  intro v3 w3 hr3 hg3 hat3
  obtain ⟨va, vc, rfl, _⟩ := hr3.shape
  have f3 : Fr (fun k => (Value.slice ka2 o.keys.length kc2).ownBlock = some k) w2 w3 := ((Fr.refl _ w2).alloc _).grown hg3 (fun k e => .inr e)
  obtain ⟨s1, s2, s3, s4, s5⟩ := (unhide HH2).setKv (unhide HO) (unhide HK7) (f3.mono (fun k _ e => by rw [unhide KE2]; exact e)) (l := o.keys ++ [key]) (by rw [List.length_append]; exact hr3) (by
    rw [unhide KE2]
    rcases hat3 with q | q
    · exact .inl q
    · right; intro k hk; rw [q] at hk; cases hk; first | simp | omega)
  rw [unhide KE2] at s1
  have hn : i < os.length := (List.getElem?_eq_some_iff.1 (unhide HO)).1
  have ho4 : (os.set i { o with kv := .slice va (o.keys.length + 1) vc, keys := o.keys ++ [key] })[i]? = some { o with kv := .slice va (o.keys.length + 1) vc, keys := o.keys ++ [key] } := by rw [List.getElem?_set_self hn]
  have hok4 := s3.ok _ _ ho4
  obtain ⟨_, c14⟩ := rec_cells hok4 (unhide HK7)
  obtain ⟨y0, y1⟩ := (show Bx w2 w.heap.size xk xn from ⟨x0, x1⟩).fr s4 (unhide NFS _ (Nat.le_refl _))
  have hir : Ro (w3.setCell ⟨o.b, 0, none⟩ (.slice va (o.keys.length + 1) vc)) 2 o.iv o.its.length (flat o.its) := hok4.items
  obtain ⟨ia, icap, ie, icl, icm⟩ := hir.shape
  have hc14 : (w3.setCell ⟨o.b, 0, none⟩ (.slice va (o.keys.length + 1) vc)).cell? ⟨o.b, 1, none⟩ = some (.slice ia o.its.length icap) := by rw [← ie]; exact c14
  have IE := hide ie
  rw [ie] at hir
  have HRo0 := hide hir
  have HS4 := hide s4
  have HS5 := hide s5
  have HO4 := hide ho4
  have HH4 := hide s3
  have hb3 : o.b < w3.heap.size := World.block_lt_of_cell? _ _ s1
  have hbW0 : o.b < (w3.setCell ⟨o.b, 0, none⟩ (.slice va (o.keys.length + 1) vc)).heap.size := World.block_lt_of_cell? _ _ hc14
  have hqW0 : w.heap.size < (w3.setCell ⟨o.b, 0, none⟩ (.slice va (o.keys.length + 1) vc)).heap.size := World.block_lt_of_cell? _ _ y0
  have hqb : Hid (o.b ≠ w.heap.size) := by
    have := unhide HLT o.b (Fts.mine (unhide HO) (.inl rfl))
    unfold Hid; omega
  have hnq : Hid ((Value.slice ia o.its.length icap).ownBlock ≠ some w.heap.size) := by
    rw [← unhide IE]
    intro e
    have := unhide HLT w.heap.size (Fts.mine (unhide HO) (.inr (.inl e)))
    omega
  have hN : o.its.length ≤ 8000000000000 := by rw [unhide HLEN]; omega
  clear hr3 hg3 hat3 f3 s3 s4 s5 ho4 hok4 c14 hir ie x0 x1 c02 hbl2 hx2 hn icl icm
  go_wp2_with fail
  have b0 := y0
  have b1 := y1
  have hc0 := hc14
  have hbW := hbW0
  have hqW := hide hqW0
  clear y0 y1 hc14 hbW0 hqW0 s1 s2 hb3
  generalize w3.setCell ⟨o.b, 0, none⟩ (.slice va (o.keys.length + 1) vc) = W at *
  have HRo : Hid (Ro W.drew 2 (.slice ia o.its.length icap) o.its.length (flat o.its)) := (unhide HRo0).keep (fun _ _ => rfl)
  have hcA : (W.alloc (.cells #[.int .i64 xk, .int .i64 xn] 33)).cell? ⟨o.b, 1, none⟩ = some (.slice ia o.its.length icap) := (World.cell?_of_block (Below.heap_alloc _ _ _ hbW)).trans hc0
  have HSA : Hid ((W.alloc (.cells #[.int .i64 xk, .int .i64 xn] 33)).drew.cell? ⟨w.heap.size, 0, none⟩ = some (.int .i64 xk) ∧ (W.alloc (.cells #[.int .i64 xk, .int .i64 xn] 33)).drew.cell? ⟨w.heap.size, 1, none⟩ = some (.int .i64 xn)) :=
    ⟨(World.cell?_of_block (a := ⟨w.heap.size, 0, none⟩) (Below.heap_alloc _ _ _ (unhide hqW))).trans b0, (World.cell?_of_block (a := ⟨w.heap.size, 1, none⟩) (Below.heap_alloc _ _ _ (unhide hqW))).trans b1⟩
  have HSET : Hid (∀ v' w5, Ro w5 2 v' (o.its ++ [(xk, xn)]).length (flat (o.its ++ [(xk, xn)])) → (W.alloc (.cells #[.int .i64 xk, .int .i64 xn] 33)).grownBy w5 (Value.slice ia o.its.length icap).ownBlock → (v'.ownBlock = (Value.slice ia o.its.length icap).ownBlock ∨ v'.ownBlock = some (W.alloc (.cells #[.int .i64 xk, .int .i64 xn] 33)).heap.size) →
      w5.cell? ⟨o.b, 1, none⟩ = some (.slice ia o.its.length icap) ∧ w5.frozen? ⟨o.b, 1, none⟩ = false ∧ Hid (Now w h bud sp ov os (w5.setCell ⟨o.b, 1, none⟩ v') (sp + 2) (os.set i { o with kv := .slice va (o.keys.length + 1) vc, keys := o.keys ++ [key], iv := v', its := o.its ++ [(xk, xn)] }))) := fun v' w5 hr hg hat => by
    have e : ({ o with kv := .slice va (o.keys.length + 1) vc, keys := o.keys ++ [key] } : OD).ci = 1 := by unfold OD.ci; rw [show ({ o with kv := .slice va (o.keys.length + 1) vc, keys := o.keys ++ [key] } : OD).k = 7 from unhide HK7]; rfl
    have key1 : ∀ ov4, Hp W h bud (sp + 2) ov4 (os.set i { o with kv := .slice va (o.keys.length + 1) vc, keys := o.keys ++ [key] }) → w5.cell? ⟨o.b, 1, none⟩ = some (.slice ia o.its.length icap) ∧ w5.frozen? ⟨o.b, 1, none⟩ = false ∧ Now W h bud (sp + 2) ov4 (os.set i { o with kv := .slice va (o.keys.length + 1) vc, keys := o.keys ++ [key] }) (w5.setCell ⟨o.b, 1, none⟩ v') (sp + 2) (os.set i { o with kv := .slice va (o.keys.length + 1) vc, keys := o.keys ++ [key], iv := v', its := o.its ++ [(xk, xn)] }) := fun ov4 H4 => by
      have := H4.pushIv (unhide HO4) hr (by show (W.alloc _).grownBy w5 o.iv.ownBlock; rw [unhide IE]; exact hg) (by show _ = o.iv.ownBlock ∨ _; rw [unhide IE]; exact hat)
      rw [e, List.set_set] at this
      refine ⟨?_, this.2.1, this.2.2⟩
      rw [this.1]
      exact congrArg some (unhide IE)
    obtain ⟨q1, q2, q3⟩ := key1 ov (unhide HH4)
    exact ⟨q1, q2, Now.after (unhide HB) (Now.join (sp1 := sp + 2) (unhide HF2) (fun k hk => .inl hk) (Now.join (sp := sp + 2) (unhide HS4) (unhide HS5) q3))⟩
  have HQ : Hid (∀ w5, (W.alloc (.cells #[.int .i64 xk, .int .i64 xn] 33)).grownBy w5 (Value.slice ia o.its.length icap).ownBlock → ∀ j, w5.cell? ⟨w.heap.size, j, none⟩ = W.cell? ⟨w.heap.size, j, none⟩) := fun w5 hg j =>
    World.cell?_of_block ((hg.block w.heap.size (by have := unhide hqW; simp; omega) (fun e => unhide hnq e.symm)).trans (Below.heap_alloc _ _ _ (unhide hqW)))
  refine wp_region_held_drew (S := fun wx => wx.cell? ⟨w.heap.size, 0, none⟩ = some (.int .i64 xk) ∧ wx.cell? ⟨w.heap.size, 1, none⟩ = some (.int .i64 xn)) (by kernel_rfl) ⟨b0, b1⟩ (fun hHeld => ?_)
  refine wpAnyH_take (i := 0) (oi := _) (v := .pointer (some ⟨o.b, 0, none⟩)) rfl (by kernel_rfl) (by kernel_rfl) (by kernel_rfl) (fun _ _ _ h => h) (Or.inl ⟨by rfl, (by intro w hSw; go_simp)⟩) (by assumption) ?_
  refine wpAnyH_take (i := 1) (oi := _) (v := .pointer (some ⟨o.b, 0, none⟩)) rfl (by kernel_rfl) (by kernel_rfl) (by kernel_rfl) (fun _ _ _ h => h) (Or.inl ⟨by rfl, (by intro w hSw; go_simp)⟩) (by assumption) ?_
  refine wpAnyH_take (i := 2) (oi := _) (v := .pointer (some ⟨o.b, 0, none⟩)) rfl (by kernel_rfl) (by kernel_rfl) (by kernel_rfl) (fun _ _ _ h => h) (Or.inl ⟨by rfl, (by intro w hSw; go_simp)⟩) (by assumption) ?_
  go_simp
  refine wpAnyH_take (i := 3) (oi := _) (v := .pointer (some ⟨o.b, 1, none⟩)) rfl (by kernel_rfl) (by kernel_rfl) (by kernel_rfl) (fun _ _ _ h => h) (Or.inl ⟨by rfl, (by intro w hSw; go_simp)⟩) (by assumption) ?_
  refine wpAnyH_take (i := 5) (oi := _) (v := .agg #[.int .i64 xk, .int .i64 xn]) rfl (by kernel_rfl) (by kernel_rfl) (by kernel_rfl) (fun _ _ _ h => h) (Or.inl ⟨by rfl, (by intro w hSw; obtain ⟨hs1, hs2⟩ := hSw; go_simp)⟩) (by assumption) ?_
  go_simp
  refine wpAnyH_ready (rs := [4, 6]) (by kernel_rfl) (by simp) ?_
  refine AllReadyH.cons (o := _) rfl (fun K hK => ?_) (AllReadyH.cons (o := _) rfl (fun K hK => ?_) AllReadyH.nil)
  · go_simp
    refine hK.out _ _ hHeld (fun _ => ?_)
    clear hK K
    refine wpAnyH_ready (rs := [6]) (by kernel_rfl) (by simp) ?_
    refine AllReadyH.cons (o := _) rfl (fun K hK => ?_) AllReadyH.nil
    go_simp
    refine hK.out _ _ (unhide HSA) (fun _ => ?_)
    clear hK K
    refine wpAnyH_ready (rs := [7]) (by kernel_rfl) (by simp) ?_
    refine AllReadyH.cons (o := _) rfl (fun K hK => ?_) AllReadyH.nil
    refine step_app rfl _ _ rfl (.slice ia o.its.length icap) o.its rfl (((unhide HRo).keep (w' := W.drew.alloc (.cells #[.int .i64 xk, .int .i64 xn] 33)) (fun g hg => Below.heap_alloc _ _ _ ((unhide HRo).lt g hg))).keep (fun _ _ => rfl)) ⟨W.heap.size, 0, none⟩ 1 xk xn rfl (by exact two_new' W (.int .i64 xk) (.int .i64 xn) 33) (by omega) ?_
    intro v' w5 hr5 hg5 hat5
    obtain ⟨va, vcap, rfl, _⟩ := hr5.shape
    have hg5' : (W.alloc (.cells #[.int .i64 xk, .int .i64 xn] 33)).grownBy w5 (Value.slice ia o.its.length icap).ownBlock := ⟨hg5.os, hg5.tape, hg5.output, hg5.size, hg5.block⟩
    obtain ⟨k0, kf, A⟩ := unhide HSET _ w5 hr5 hg5' hat5
    simp only [List.length_append, List.length_cons, List.length_nil, Nat.zero_add] at A
    have hbq : ∀ j, w5.cell? ⟨w.heap.size, j, none⟩ = W.cell? ⟨w.heap.size, j, none⟩ := unhide HQ w5 hg5'
    have b05 := (hbq 0).trans b0
    have b15 := (hbq 1).trans b1
    clear hr5 hg5 hg5' hat5 hbq
    refine hK.out _ _ ⟨b05, b15⟩ (fun hHeld5 => ?_)
    clear hK K
    go_simp
    refine wpAnyH_take (i := 8) (oi := _) (v := .pointer (some ⟨o.b, 0, none⟩)) rfl (by kernel_rfl) (by kernel_rfl) (by kernel_rfl) (fun _ _ _ h => h) (Or.inl ⟨by rfl, (by intro w hSw; go_simp)⟩) (by assumption) ?_
    refine wpAnyH_take (i := 9) (oi := _) (v := .pointer (some ⟨o.b, 1, none⟩)) rfl (by kernel_rfl) (by kernel_rfl) (by kernel_rfl) (fun _ _ _ h => h) (Or.inl ⟨by rfl, (by intro w hSw; go_simp)⟩) (by assumption) ?_
    go_simp
    refine wpAnyH_ready (rs := [10]) (by kernel_rfl) (by simp) ?_
    refine AllReadyH.cons (o := _) rfl (fun K hK => ?_) AllReadyH.nil
    have hb5 : o.b < w5.heap.size := World.block_lt_of_cell? _ _ k0
    go_simp
    have b06 : ∀ u, (w5.setCell ⟨o.b, 1, none⟩ u).cell? ⟨w.heap.size, 0, none⟩ = some (.int .i64 xk) := fun u => by rw [World.cell?_setCell_other _ _ _ _ (fun e => unhide hqb (congrArg Addr.block e))]; exact b05
    have b16 : ∀ u, (w5.setCell ⟨o.b, 1, none⟩ u).cell? ⟨w.heap.size, 1, none⟩ = some (.int .i64 xn) := fun u => by rw [World.cell?_setCell_other _ _ _ _ (fun e => unhide hqb (congrArg Addr.block e))]; exact b15
    refine hK.out _ _ ⟨b06 _, b16 _⟩ (fun hHeld6 => ?_)
    clear hK K
    refine wpAnyH_done (by kernel_rfl) ?_ _
    clear hHeld hHeld5 hHeld6 b05 b15 b06 b16 k0 kf b0 b1 hcA hc0
    go_wp2_with fail
    go_ret2
    exact ⟨rfl, _, _, unhide A⟩
  · go_simp
    refine hK.out _ _ (unhide HSA) (fun _ => ?_)
    clear hK K
    refine wpAnyH_ready (rs := [4]) (by kernel_rfl) (by simp) ?_
    refine AllReadyH.cons (o := _) rfl (fun K hK => ?_) AllReadyH.nil
    go_simp
    refine hK.out _ _ (unhide HSA) (fun _ => ?_)
    clear hK K
    refine wpAnyH_ready (rs := [7]) (by kernel_rfl) (by simp) ?_
    refine AllReadyH.cons (o := _) rfl (fun K hK => ?_) AllReadyH.nil
    refine step_app rfl _ _ rfl (.slice ia o.its.length icap) o.its rfl (((unhide HRo).keep (w' := W.drew.alloc (.cells #[.int .i64 xk, .int .i64 xn] 33)) (fun g hg => Below.heap_alloc _ _ _ ((unhide HRo).lt g hg))).keep (fun _ _ => rfl)) ⟨W.heap.size, 0, none⟩ 1 xk xn rfl (by exact two_new' W (.int .i64 xk) (.int .i64 xn) 33) (by omega) ?_
    intro v' w5 hr5 hg5 hat5
    obtain ⟨va, vcap, rfl, _⟩ := hr5.shape
    have hg5' : (W.alloc (.cells #[.int .i64 xk, .int .i64 xn] 33)).grownBy w5 (Value.slice ia o.its.length icap).ownBlock := ⟨hg5.os, hg5.tape, hg5.output, hg5.size, hg5.block⟩
    obtain ⟨k0, kf, A⟩ := unhide HSET _ w5 hr5 hg5' hat5
    simp only [List.length_append, List.length_cons, List.length_nil, Nat.zero_add] at A
    have hbq : ∀ j, w5.cell? ⟨w.heap.size, j, none⟩ = W.cell? ⟨w.heap.size, j, none⟩ := unhide HQ w5 hg5'
    have b05 := (hbq 0).trans b0
    have b15 := (hbq 1).trans b1
    clear hr5 hg5 hg5' hat5 hbq
    refine hK.out _ _ ⟨b05, b15⟩ (fun hHeld5 => ?_)
    clear hK K
    go_simp
    refine wpAnyH_take (i := 8) (oi := _) (v := .pointer (some ⟨o.b, 0, none⟩)) rfl (by kernel_rfl) (by kernel_rfl) (by kernel_rfl) (fun _ _ _ h => h) (Or.inl ⟨by rfl, (by intro w hSw; go_simp)⟩) (by assumption) ?_
    refine wpAnyH_take (i := 9) (oi := _) (v := .pointer (some ⟨o.b, 1, none⟩)) rfl (by kernel_rfl) (by kernel_rfl) (by kernel_rfl) (fun _ _ _ h => h) (Or.inl ⟨by rfl, (by intro w hSw; go_simp)⟩) (by assumption) ?_
    go_simp
    refine wpAnyH_ready (rs := [10]) (by kernel_rfl) (by simp) ?_
    refine AllReadyH.cons (o := _) rfl (fun K hK => ?_) AllReadyH.nil
    have hb5 : o.b < w5.heap.size := World.block_lt_of_cell? _ _ k0
    go_simp
    have b06 : ∀ u, (w5.setCell ⟨o.b, 1, none⟩ u).cell? ⟨w.heap.size, 0, none⟩ = some (.int .i64 xk) := fun u => by rw [World.cell?_setCell_other _ _ _ _ (fun e => unhide hqb (congrArg Addr.block e))]; exact b05
    have b16 : ∀ u, (w5.setCell ⟨o.b, 1, none⟩ u).cell? ⟨w.heap.size, 1, none⟩ = some (.int .i64 xn) := fun u => by rw [World.cell?_setCell_other _ _ _ _ (fun e => unhide hqb (congrArg Addr.block e))]; exact b15
    refine hK.out _ _ ⟨b06 _, b16 _⟩ (fun hHeld6 => ?_)
    clear hK K
    refine wpAnyH_done (by kernel_rfl) ?_ _
    clear hHeld hHeld5 hHeld6 b05 b15 b06 b16 k0 kf b0 b1 hcA hc0
    go_wp2_with fail
    go_ret2
    exact ⟨rfl, _, _, unhide A⟩
end Go.Proofs.Ytkpngfahnpidkaa
