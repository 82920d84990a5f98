/-
  Object: the program's, of any kind.
-/
import Derived.Test.YtfoanikkngmeiaaHKi
namespace Go.Proofs.Ytfoanikkngmeiaa.hp
open Go.RowKit
set_option linter.unusedVariables false
set_option linter.unusedSimpArgs false
/-- An object, as it is told. -/
structure AO where
  k : Int
  its : List (Int × Int)
  keys : List Int
  fn : Int
  cap : Int
  shut : Bool
def AO.zero : AO := ⟨0, [], [], 0, 0, false⟩
/-- What is told of an object of the program's. -/
def OD.ao (o : OD) : AO := ⟨(o.k : Int), o.its, o.keys, if o.k = 8 then o.m else 0, if o.k = 9 then o.m else 0, if o.k = 9 then o.shut else false⟩
set_option maxRecDepth 100000 in
set_option maxHeartbeats 6400000 in
theorem object7_any {w : World} {h : Nat} {bud sp : Int} {ov : Value} {os : List OD} (H : Hp w h bud sp ov os) {n : Nat} {o : OD} (ho : os[n]? = some o) (hk : o.k = 7) (h1 : o.its.length ≤ 4096) (h2 : o.keys.length ≤ 4096) :
    Calls Try.prog 15 #[.pointer (some ⟨h, 0, none⟩), .int .i64 (n : Int)] w fun e w' => ∃ v1 v2, e = .returned (.tuple #[.agg (objC 7 v1 v2), .bool true]) ∧ Gw w o.its v1 w' ∧ Gk w o.keys v2 w' := by
  have hn : n < os.length := (List.getElem?_eq_some_iff.1 ho).1
  have hB : Below w.heap.size w (w.alloc (.cells (objC 0 (.slice none 0 0) (.slice none 0 0)) 51)) := (Below.refl _ _).alloc (Nat.le_refl _) _
  have hz : (w.alloc (.cells (objC 0 (.slice none 0 0) (.slice none 0 0)) 51)).heap.size = w.heap.size + 1 := by simp
  have H0 := H.below hB
  have O0 := Obx.new w 0 (.slice none 0 0) (.slice none 0 0) 51
  have HT := hide (told7_any (H0.ok _ _ ho) hk h1 h2)
  obtain ⟨g, off, cap, ev, hc1, hc2, hg, hcell⟩ := H0.row.full (by omega)
  have hcn := hcell n (by omega)
  rw [List.getElem?_map, ho] at hcn
  have ef : o.face = .iface 92 (.pointer (some ⟨o.b, 0, none⟩)) := by unfold OD.face; rw [hk]; rfl
  simp only [Option.map_some, ef] at hcn
  have hc := H0.c2
  rw [ev] at hc
  have hl := H.hlt
  have hlA := H0.hlt
  have d0 : decide (((n : Nat) : Int) < 0) = false := decide_eq_false (by omega)
  have i1 : ((n : Nat) : Int) < (os.length : Int) := by omega
  have i0 : (0 : Int) ≤ ((n : Nat) : Int) := by omega
  have d1 : decide (((n : Nat) : Int) ≥ (os.length : Int)) = false := decide_eq_false (by omega)
  have HB := hide hB
  have HO := hide O0
  have HZ := hide hz
  unfold objC at HT hcn hc hlA hg
  clear H H0 ev hcell ho hk ef hB O0 hz
  generalize os.length = LL at *
  go_enter Try.func15, Try.ntmps15
  go_wp2_with fail
  refine (unhide HT).mono ?_
  rintro e1 w1 ⟨v1, v2, rfl, g1, k1⟩
  obtain ⟨va, vc, rfl, _⟩ := g1.1.shape
  obtain ⟨ua, uc, rfl, _⟩ := k1.1.shape
  have b1 : Below (w.alloc (.cells (objC 0 (.slice none 0 0) (.slice none 0 0)) 51)).heap.size (w.alloc (.cells (objC 0 (.slice none 0 0) (.slice none 0 0)) 51)) w1 := g1.2.1
  have hO1 := (unhide HO).fr (Fr.of_below (S := fun _ => False) b1) (fun e => e)
  obtain ⟨hZ, fz⟩ := hO1.set (k' := 7) (u1 := .slice va o.its.length vc) (u2 := .slice ua o.keys.length uc)
  have hz := unhide HZ
  have s1 := b1.size
  have gge : ∀ k, (Value.slice va o.its.length vc).ownBlock = some k → w.heap.size + 1 ≤ k := fun k hk => by have : (w.alloc (.cells (objC 0 (.slice none 0 0) (.slice none 0 0)) 51)).heap.size ≤ k := g1.2.2 k hk; omega
  have kge : ∀ k, (Value.slice ua o.keys.length uc).ownBlock = some k → w.heap.size + 1 ≤ k := fun k hk => by have : (w.alloc (.cells (objC 0 (.slice none 0 0) (.slice none 0 0)) 51)).heap.size ≤ k := k1.2.2 k hk; omega
  have bW : Below w.heap.size w (w1.setCells w.heap.size 0 (objL 7 (.slice va o.its.length vc) (.slice ua o.keys.length uc))) := ((unhide HB).trans (b1.mono (by omega))).trans (fz.below (by omega) (fun k hk e => by omega))
  have hGw : Gw w o.its (.slice va o.its.length vc) (w1.setCells w.heap.size 0 (objL 7 (.slice va o.its.length vc) (.slice ua o.keys.length uc))) := ⟨g1.1.fr fz (fun k hk e => by have := gge k hk; omega), bW, fun k hk => by have := gge k hk; omega⟩
  have hGk : Gk w o.keys (.slice ua o.keys.length uc) (w1.setCells w.heap.size 0 (objL 7 (.slice va o.its.length vc) (.slice ua o.keys.length uc))) := ⟨k1.1.fr fz (fun k hk e => by have := kge k hk; omega), bW, fun k hk => by have := kge k hk; omega⟩
  have zf := hO1.2
  have t0 := hO1.1 0 (by omega)
  have t1 := hO1.1 1 (by omega)
  have t2 := hO1.1 2 (by omega)
  have t3 := hO1.1 3 (by omega)
  have t4 := hO1.1 4 (by omega)
  have t5 := hO1.1 5 (by omega)
  simp only [objL, List.getElem_cons_zero, List.getElem_cons_succ] at t0 t1 t2 t3 t4 t5
  have hq1 : w.heap.size < w1.heap.size := hO1.lt
  have HZF := hide (And.intro hZ (And.intro hGw hGk))
  clear hGw hGk hZ fz gge kge bW hO1 b1 g1 k1 s1 hz
  go_wp2_with fail
  show bodyPost Try.prog Try.f15 _ Exit.ret _ (w1.setCells w.heap.size 0 (objL 7 (.slice va o.its.length vc) (.slice ua o.keys.length uc)))
  obtain ⟨hZ, hGw, hGk⟩ := unhide HZF
  clear HZF t0 t1 t2 t3 t4 t5 zf hq1
  generalize w1.setCells w.heap.size 0 (objL 7 (.slice va o.its.length vc) (.slice ua o.keys.length uc)) = W8 at *
  have z0 := hZ.1 0 (by omega)
  have z1 := hZ.1 1 (by omega)
  have z2 := hZ.1 2 (by omega)
  have z3 := hZ.1 3 (by omega)
  have z4 := hZ.1 4 (by omega)
  have z5 := hZ.1 5 (by omega)
  simp only [objL, List.getElem_cons_zero, List.getElem_cons_succ] at z0 z1 z2 z3 z4 z5
  refine bodyPost_ret (v := .tuple #[.agg (objC 7 (.slice va o.its.length vc) (.slice ua o.keys.length uc)), .bool true]) (by simp [results, Try.results15, go_sem, objC, z0, z1, z2, z3, z4, z5]) rfl ?_
  exact ⟨_, _, rfl, hGw, hGk⟩
/-- What came out with an answer. -/
def OutV (w w' : World) (a : AO) (iv kv : Value) : Prop := Ro w' 2 iv a.its.length (flat a.its) ∧ Ro w' 1 kv a.keys.length (kcells a.keys) ∧ ∀ k, (iv.ownBlock = some k ∨ kv.ownBlock = some k) → w.heap.size ≤ k
theorem OutV.nil (w w' : World) : OutV w w' AO.zero (.slice none 0 0) (.slice none 0 0) := ⟨Ro.nil _ _, Ro.nil _ _, by rintro k (e | e) <;> simp [Value.ownBlock] at e⟩
theorem OutV.fr {S : Nat → Prop} {w w1 w2 : World} {a : AO} {iv kv : Value} (h : OutV w w1 a iv kv) (f : Fr S w1 w2) (hS : ∀ q, S q → q < w.heap.size) : OutV w w2 a iv kv :=
  ⟨h.1.fr f (fun k hk e => by have := hS k e; have := h.2.2 k (.inl hk); omega), h.2.1.fr f (fun k hk e => by have := hS k e; have := h.2.2 k (.inr hk); omega), h.2.2⟩
theorem OutV.from {w w0 w1 : World} {a : AO} {iv kv : Value} (h : OutV w0 w1 a iv kv) (hz : w.heap.size ≤ w0.heap.size) : OutV w w1 a iv kv := ⟨h.1, h.2.1, fun k hk => Nat.le_trans hz (h.2.2 k hk)⟩
set_option maxRecDepth 100000 in
set_option maxHeartbeats 6400000 in
theorem object6_any {w : World} {h : Nat} {bud sp : Int} {ov : Value} {os : List OD} (H : Hp w h bud sp ov os) {n : Nat} {o : OD} (ho : os[n]? = some o) (hk : o.k = 6) (h1 : o.its.length ≤ 4096) :
    Calls Try.prog 15 #[.pointer (some ⟨h, 0, none⟩), .int .i64 (n : Int)] w fun e w' => ∃ v1, e = .returned (.tuple #[.agg #[.int .i64 6, v1, .slice none 0 0, .int .i64 0, .int .i64 0, .bool false], .bool true]) ∧ Gw w o.its v1 w' := by
  have hn : n < os.length := (List.getElem?_eq_some_iff.1 ho).1
  have hB : Below w.heap.size w (w.alloc (.cells #[.int .i64 0, .slice none 0 0, .slice none 0 0, .int .i64 0, .int .i64 0, .bool false] 51)) := (Below.refl _ _).alloc (Nat.le_refl _) _
  have hz : (w.alloc (.cells #[.int .i64 0, .slice none 0 0, .slice none 0 0, .int .i64 0, .int .i64 0, .bool false] 51)).heap.size = w.heap.size + 1 := by simp
  have H0 := H.below hB
  have S0 := Six.new w (.int .i64 0) (.slice none 0 0) (.slice none 0 0) (.int .i64 0) (.int .i64 0) (.bool false) 51
  have HT := hide (told6_any (H0.ok _ _ ho) hk h1)
  obtain ⟨g, off, cap, ev, hc1, hc2, hg, hcell⟩ := H0.row.full (by omega)
  have hcn := hcell n (by omega)
  rw [List.getElem?_map, ho] at hcn
  have ef : o.face = .iface 89 (.pointer (some ⟨o.b, 0, none⟩)) := by unfold OD.face; rw [hk]; rfl
  simp only [Option.map_some, ef] at hcn
  have hc := H0.c2
  rw [ev] at hc
  have hl := H.hlt
  have hlA := H0.hlt
  have d0 : decide (((n : Nat) : Int) < 0) = false := decide_eq_false (by omega)
  have i1 : ((n : Nat) : Int) < (os.length : Int) := by omega
  have i0 : (0 : Int) ≤ ((n : Nat) : Int) := by omega
  have d1 : decide (((n : Nat) : Int) ≥ (os.length : Int)) = false := decide_eq_false (by omega)
  have HB := hide hB
  have HS := hide S0
  have HZ := hide hz
  clear H H0 ev hcell ho hk ef hB S0 hz
  generalize os.length = LL at *
  go_enter Try.func15, Try.ntmps15
  go_wp2_with fail
  refine (unhide HT).mono ?_
  rintro e1 w1 ⟨v1, rfl, g1, g2, g3⟩
  obtain ⟨va, vc, ve, _⟩ := g1.shape
  subst ve
  have S1 := (unhide HS).fr (Fr.of_below (S := fun _ => False) g2) (fun e => e)
  have lx : w.heap.size < w1.heap.size := S1.lt
  have yf := S1.2
  have y0 := S1.1 0 (by omega)
  have y1 := S1.1 1 (by omega)
  have y2 := S1.1 2 (by omega)
  have y3 := S1.1 3 (by omega)
  have y4 := S1.1 4 (by omega)
  have y5 := S1.1 5 (by omega)
  simp only [sixL, List.getElem_cons_zero, List.getElem_cons_succ] at y0 y1 y2 y3 y4 y5
  obtain ⟨hZ, fz⟩ := S1.set (.int .i64 6) (.slice va o.its.length vc) (.slice none 0 0) (.int .i64 0) (.int .i64 0) (.bool false)
  have hGw : Gw w o.its (.slice va o.its.length vc) (w1.setCells w.heap.size 0 (sixL (.int .i64 6) (.slice va o.its.length vc) (.slice none 0 0) (.int .i64 0) (.int .i64 0) (.bool false))) := by
    have hz := unhide HZ
    refine ⟨g1.fr fz (fun k hk e => ?_), ((unhide HB).trans (g2.mono (by omega))).trans (fz.below (by omega) (fun k hk e => by omega)), fun k hk => ?_⟩
    · have := g3 k hk; omega
    · have := g3 k hk; omega
  have HGW := hide hGw
  have HZ8 := hide hZ
  clear g1 g2 g3 S1 fz hZ hGw
  go_wp2_with fail
  show bodyPost Try.prog Try.f15 _ Exit.ret _ (w1.setCells w.heap.size 0 (sixL (.int .i64 6) (.slice va o.its.length vc) (.slice none 0 0) (.int .i64 0) (.int .i64 0) (.bool false)))
  have hZ := unhide HZ8
  have hGw := unhide HGW
  clear HZ8 HGW y0 y1 y2 y3 y4 y5 yf lx
  generalize w1.setCells w.heap.size 0 (sixL (.int .i64 6) (.slice va o.its.length vc) (.slice none 0 0) (.int .i64 0) (.int .i64 0) (.bool false)) = W8 at *
  have z0 := hZ.1 0 (by omega)
  have z1 := hZ.1 1 (by omega)
  have z2 := hZ.1 2 (by omega)
  have z3 := hZ.1 3 (by omega)
  have z4 := hZ.1 4 (by omega)
  have z5 := hZ.1 5 (by omega)
  simp only [sixL, List.getElem_cons_zero, List.getElem_cons_succ] at z0 z1 z2 z3 z4 z5
  refine bodyPost_ret (v := .tuple #[.agg #[(.int .i64 6), (.slice va o.its.length vc), (.slice none 0 0), (.int .i64 0), (.int .i64 0), (.bool false)], .bool true]) (by simp [results, Try.results15, go_sem, z0, z1, z2, z3, z4, z5]) rfl ?_
  exact ⟨_, rfl, hGw⟩
set_option maxRecDepth 100000 in
set_option maxHeartbeats 6400000 in
theorem object8_any {w : World} {h : Nat} {bud sp : Int} {ov : Value} {os : List OD} (H : Hp w h bud sp ov os) {n : Nat} {o : OD} (ho : os[n]? = some o) (hk : o.k = 8) (h1 : o.its.length ≤ 4096) :
    Calls Try.prog 15 #[.pointer (some ⟨h, 0, none⟩), .int .i64 (n : Int)] w fun e w' => ∃ v1, e = .returned (.tuple #[.agg #[.int .i64 8, v1, .slice none 0 0, .int .i64 o.m, .int .i64 0, .bool false], .bool true]) ∧ Gw w o.its v1 w' := by
  have hn : n < os.length := (List.getElem?_eq_some_iff.1 ho).1
  have hB : Below w.heap.size w (w.alloc (.cells #[.int .i64 0, .slice none 0 0, .slice none 0 0, .int .i64 0, .int .i64 0, .bool false] 51)) := (Below.refl _ _).alloc (Nat.le_refl _) _
  have hz : (w.alloc (.cells #[.int .i64 0, .slice none 0 0, .slice none 0 0, .int .i64 0, .int .i64 0, .bool false] 51)).heap.size = w.heap.size + 1 := by simp
  have H0 := H.below hB
  have S0 := Six.new w (.int .i64 0) (.slice none 0 0) (.slice none 0 0) (.int .i64 0) (.int .i64 0) (.bool false) 51
  have HT := hide (told8_any (H0.ok _ _ ho) hk h1)
  obtain ⟨g, off, cap, ev, hc1, hc2, hg, hcell⟩ := H0.row.full (by omega)
  have hcn := hcell n (by omega)
  rw [List.getElem?_map, ho] at hcn
  have ef : o.face = .iface 96 (.pointer (some ⟨o.b, 0, none⟩)) := by unfold OD.face; rw [hk]; rfl
  simp only [Option.map_some, ef] at hcn
  have hc := H0.c2
  rw [ev] at hc
  have hl := H.hlt
  have hlA := H0.hlt
  have d0 : decide (((n : Nat) : Int) < 0) = false := decide_eq_false (by omega)
  have i1 : ((n : Nat) : Int) < (os.length : Int) := by omega
  have i0 : (0 : Int) ≤ ((n : Nat) : Int) := by omega
  have d1 : decide (((n : Nat) : Int) ≥ (os.length : Int)) = false := decide_eq_false (by omega)
  have HB := hide hB
  have HS := hide S0
  have HZ := hide hz
  clear H H0 ev hcell ho hk ef hB S0 hz
  generalize os.length = LL at *
  go_enter Try.func15, Try.ntmps15
  go_wp2_with fail
  refine (unhide HT).mono ?_
  rintro e1 w1 ⟨v1, rfl, g1, g2, g3⟩
  obtain ⟨va, vc, ve, _⟩ := g1.shape
  subst ve
  have S1 := (unhide HS).fr (Fr.of_below (S := fun _ => False) g2) (fun e => e)
  have lx : w.heap.size < w1.heap.size := S1.lt
  have yf := S1.2
  have y0 := S1.1 0 (by omega)
  have y1 := S1.1 1 (by omega)
  have y2 := S1.1 2 (by omega)
  have y3 := S1.1 3 (by omega)
  have y4 := S1.1 4 (by omega)
  have y5 := S1.1 5 (by omega)
  simp only [sixL, List.getElem_cons_zero, List.getElem_cons_succ] at y0 y1 y2 y3 y4 y5
  obtain ⟨hZ, fz⟩ := S1.set (.int .i64 8) (.slice va o.its.length vc) (.slice none 0 0) (.int .i64 o.m) (.int .i64 0) (.bool false)
  have hGw : Gw w o.its (.slice va o.its.length vc) (w1.setCells w.heap.size 0 (sixL (.int .i64 8) (.slice va o.its.length vc) (.slice none 0 0) (.int .i64 o.m) (.int .i64 0) (.bool false))) := by
    have hz := unhide HZ
    refine ⟨g1.fr fz (fun k hk e => ?_), ((unhide HB).trans (g2.mono (by omega))).trans (fz.below (by omega) (fun k hk e => by omega)), fun k hk => ?_⟩
    · have := g3 k hk; omega
    · have := g3 k hk; omega
  have HGW := hide hGw
  have HZ8 := hide hZ
  clear g1 g2 g3 S1 fz hZ hGw
  go_wp2_with fail
  show bodyPost Try.prog Try.f15 _ Exit.ret _ (w1.setCells w.heap.size 0 (sixL (.int .i64 8) (.slice va o.its.length vc) (.slice none 0 0) (.int .i64 o.m) (.int .i64 0) (.bool false)))
  have hZ := unhide HZ8
  have hGw := unhide HGW
  clear HZ8 HGW y0 y1 y2 y3 y4 y5 yf lx
  generalize w1.setCells w.heap.size 0 (sixL (.int .i64 8) (.slice va o.its.length vc) (.slice none 0 0) (.int .i64 o.m) (.int .i64 0) (.bool false)) = W8 at *
  have z0 := hZ.1 0 (by omega)
  have z1 := hZ.1 1 (by omega)
  have z2 := hZ.1 2 (by omega)
  have z3 := hZ.1 3 (by omega)
  have z4 := hZ.1 4 (by omega)
  have z5 := hZ.1 5 (by omega)
  simp only [sixL, List.getElem_cons_zero, List.getElem_cons_succ] at z0 z1 z2 z3 z4 z5
  refine bodyPost_ret (v := .tuple #[.agg #[(.int .i64 8), (.slice va o.its.length vc), (.slice none 0 0), (.int .i64 o.m), (.int .i64 0), (.bool false)], .bool true]) (by simp [results, Try.results15, go_sem, z0, z1, z2, z3, z4, z5]) rfl ?_
  exact ⟨_, rfl, hGw⟩
set_option maxRecDepth 100000 in
set_option maxHeartbeats 6400000 in
theorem object9_any {w : World} {h : Nat} {bud sp : Int} {ov : Value} {os : List OD} (H : Hp w h bud sp ov os) {n : Nat} {o : OD} (ho : os[n]? = some o) (hk : o.k = 9) (h1 : o.its.length ≤ 4096) :
    Calls Try.prog 15 #[.pointer (some ⟨h, 0, none⟩), .int .i64 (n : Int)] w fun e w' => ∃ v1, e = .returned (.tuple #[.agg #[.int .i64 9, v1, .slice none 0 0, .int .i64 0, .int .i64 o.m, .bool o.shut], .bool true]) ∧ Gw w o.its v1 w' := by
  have hn : n < os.length := (List.getElem?_eq_some_iff.1 ho).1
  have hB : Below w.heap.size w (w.alloc (.cells #[.int .i64 0, .slice none 0 0, .slice none 0 0, .int .i64 0, .int .i64 0, .bool false] 51)) := (Below.refl _ _).alloc (Nat.le_refl _) _
  have hz : (w.alloc (.cells #[.int .i64 0, .slice none 0 0, .slice none 0 0, .int .i64 0, .int .i64 0, .bool false] 51)).heap.size = w.heap.size + 1 := by simp
  have H0 := H.below hB
  have S0 := Six.new w (.int .i64 0) (.slice none 0 0) (.slice none 0 0) (.int .i64 0) (.int .i64 0) (.bool false) 51
  have HT := hide (told9_any (H0.ok _ _ ho) hk h1)
  obtain ⟨g, off, cap, ev, hc1, hc2, hg, hcell⟩ := H0.row.full (by omega)
  have hcn := hcell n (by omega)
  rw [List.getElem?_map, ho] at hcn
  have ef : o.face = .iface 99 (.pointer (some ⟨o.b, 0, none⟩)) := by unfold OD.face; rw [hk]; rfl
  simp only [Option.map_some, ef] at hcn
  have hc := H0.c2
  rw [ev] at hc
  have hl := H.hlt
  have hlA := H0.hlt
  have d0 : decide (((n : Nat) : Int) < 0) = false := decide_eq_false (by omega)
  have i1 : ((n : Nat) : Int) < (os.length : Int) := by omega
  have i0 : (0 : Int) ≤ ((n : Nat) : Int) := by omega
  have d1 : decide (((n : Nat) : Int) ≥ (os.length : Int)) = false := decide_eq_false (by omega)
  have HB := hide hB
  have HS := hide S0
  have HZ := hide hz
  clear H H0 ev hcell ho hk ef hB S0 hz
  generalize os.length = LL at *
  go_enter Try.func15, Try.ntmps15
  go_wp2_with fail
  refine (unhide HT).mono ?_
  rintro e1 w1 ⟨v1, rfl, g1, g2, g3⟩
  obtain ⟨va, vc, ve, _⟩ := g1.shape
  subst ve
  have S1 := (unhide HS).fr (Fr.of_below (S := fun _ => False) g2) (fun e => e)
  have lx : w.heap.size < w1.heap.size := S1.lt
  have yf := S1.2
  have y0 := S1.1 0 (by omega)
  have y1 := S1.1 1 (by omega)
  have y2 := S1.1 2 (by omega)
  have y3 := S1.1 3 (by omega)
  have y4 := S1.1 4 (by omega)
  have y5 := S1.1 5 (by omega)
  simp only [sixL, List.getElem_cons_zero, List.getElem_cons_succ] at y0 y1 y2 y3 y4 y5
  obtain ⟨hZ, fz⟩ := S1.set (.int .i64 9) (.slice va o.its.length vc) (.slice none 0 0) (.int .i64 0) (.int .i64 o.m) (.bool o.shut)
  have hGw : Gw w o.its (.slice va o.its.length vc) (w1.setCells w.heap.size 0 (sixL (.int .i64 9) (.slice va o.its.length vc) (.slice none 0 0) (.int .i64 0) (.int .i64 o.m) (.bool o.shut))) := by
    have hz := unhide HZ
    refine ⟨g1.fr fz (fun k hk e => ?_), ((unhide HB).trans (g2.mono (by omega))).trans (fz.below (by omega) (fun k hk e => by omega)), fun k hk => ?_⟩
    · have := g3 k hk; omega
    · have := g3 k hk; omega
  have HGW := hide hGw
  have HZ8 := hide hZ
  clear g1 g2 g3 S1 fz hZ hGw
  go_wp2_with fail
  show bodyPost Try.prog Try.f15 _ Exit.ret _ (w1.setCells w.heap.size 0 (sixL (.int .i64 9) (.slice va o.its.length vc) (.slice none 0 0) (.int .i64 0) (.int .i64 o.m) (.bool o.shut)))
  have hZ := unhide HZ8
  have hGw := unhide HGW
  clear HZ8 HGW y0 y1 y2 y3 y4 y5 yf lx
  generalize w1.setCells w.heap.size 0 (sixL (.int .i64 9) (.slice va o.its.length vc) (.slice none 0 0) (.int .i64 0) (.int .i64 o.m) (.bool o.shut)) = W8 at *
  have z0 := hZ.1 0 (by omega)
  have z1 := hZ.1 1 (by omega)
  have z2 := hZ.1 2 (by omega)
  have z3 := hZ.1 3 (by omega)
  have z4 := hZ.1 4 (by omega)
  have z5 := hZ.1 5 (by omega)
  simp only [sixL, List.getElem_cons_zero, List.getElem_cons_succ] at z0 z1 z2 z3 z4 z5
  refine bodyPost_ret (v := .tuple #[.agg #[(.int .i64 9), (.slice va o.its.length vc), (.slice none 0 0), (.int .i64 0), (.int .i64 o.m), (.bool o.shut)], .bool true]) (by simp [results, Try.results15, go_sem, z0, z1, z2, z3, z4, z5]) rfl ?_
  exact ⟨_, rfl, hGw⟩
set_option maxRecDepth 100000 in
set_option maxHeartbeats 3200000 in
theorem object_miss {w : World} {h : Nat} {bud sp : Int} {ov : Value} {os : List OD} (H : Hp w h bud sp ov os) {n : Int} (hn : n < 0 ∨ (os.length : Int) ≤ n) :
    Calls Try.prog 15 #[.pointer (some ⟨h, 0, none⟩), .int .i64 n] w fun e w' => e = .returned (.tuple #[.agg #[.int .i64 0, .slice none 0 0, .slice none 0 0, .int .i64 0, .int .i64 0, .bool false], .bool false]) ∧ Below w.heap.size w w' := by
  have hB : Below w.heap.size w (w.alloc (.cells #[.int .i64 0, .slice none 0 0, .slice none 0 0, .int .i64 0, .int .i64 0, .bool false] 51)) := (Below.refl _ _).alloc (Nat.le_refl _) _
  have H0 := H.below hB
  obtain ⟨ra, rc, re, _⟩ := H0.row.shape
  have S0 := Six.new w (.int .i64 0) (.slice none 0 0) (.slice none 0 0) (.int .i64 0) (.int .i64 0) (.bool false) 51
  have r2 := H0.c2
  have hl := H0.hlt
  rw [re] at r2
  have yf := S0.2
  have y0 := S0.1 0 (by omega)
  have y1 := S0.1 1 (by omega)
  have y2 := S0.1 2 (by omega)
  have y3 := S0.1 3 (by omega)
  have y4 := S0.1 4 (by omega)
  have y5 := S0.1 5 (by omega)
  simp only [sixL, List.getElem_cons_zero, List.getElem_cons_succ] at y0 y1 y2 y3 y4 y5
  have HB := hide hB
  clear H H0 S0 hB
  by_cases h0 : n < 0
  · go_enter Try.func15, Try.ntmps15
    go_wp2_with fail
    refine bodyPost_ret (v := .tuple #[.agg #[.int .i64 0, .slice none 0 0, .slice none 0 0, .int .i64 0, .int .i64 0, .bool false], .bool false]) (by simp [results, Try.results15, go_sem, y0, y1, y2, y3, y4, y5]) rfl ?_
    exact ⟨rfl, unhide HB⟩
  · have h1 : (os.length : Int) ≤ n := hn.resolve_left h0
    have h2 : ¬ n < (os.length : Int) := by omega
    go_enter Try.func15, Try.ntmps15
    go_wp2_with fail
    refine bodyPost_ret (v := .tuple #[.agg #[.int .i64 0, .slice none 0 0, .slice none 0 0, .int .i64 0, .int .i64 0, .bool false], .bool false]) (by simp [results, Try.results15, go_sem, y0, y1, y2, y3, y4, y5]) rfl ?_
    exact ⟨rfl, unhide HB⟩
theorem object_all {w : World} {h : Nat} {bud sp : Int} {ov : Value} {os : List OD} (H : Hp w h bud sp ov os) {n : Nat} {o : OD} (ho : os[n]? = some o) (h1 : o.its.length ≤ 4096) (h2 : o.keys.length ≤ 4096) :
    Calls Try.prog 15 #[.pointer (some ⟨h, 0, none⟩), .int .i64 (n : Int)] w fun e w' => ∃ v1 v2, e = .returned (.tuple #[.agg #[.int .i64 o.ao.k, v1, v2, .int .i64 o.ao.fn, .int .i64 o.ao.cap, .bool o.ao.shut], .bool true]) ∧ OutV w w' o.ao v1 v2 ∧ Below w.heap.size w w' := by
  obtain ⟨k1, k2⟩ := (H.ok _ _ ho).kind
  have hp := (H.ok _ _ ho).plain
  have hn : o.k ≠ 7 → ∀ v1 w', Gw w o.its v1 w' → OutV w w' o.ao v1 (.slice none 0 0) ∧ Below w.heap.size w w' := fun h7 v1 w' g => by
    have hk := (hp h7).2
    exact ⟨⟨g.1, by show Ro w' 1 _ o.keys.length _; rw [show o.ao.keys = [] from hk, hk]; exact Ro.nil _ _, by
      rintro k (e | e)
      · exact g.2.2 k e
      · simp [Value.ownBlock] at e⟩, g.2.1⟩
  have hc : o.k = 6 ∨ o.k = 7 ∨ o.k = 8 ∨ o.k = 9 := by omega
  rcases hc with e | e | e | e
  · refine (object6_any H ho e h1).mono fun q w' ⟨v1, he, g⟩ => ⟨v1, _, ?_, hn (by omega) v1 w' g⟩
    rw [he]; simp [OD.ao, e]
  · refine (object7_any H ho e h1 h2).mono fun q w' ⟨v1, v2, he, g, g'⟩ => ⟨v1, v2, ?_, ⟨g.1, g'.1, ?_⟩, g.2.1⟩
    · rw [he]; simp [OD.ao, e, objC]
    · rintro k (e | e)
      · exact g.2.2 k e
      · exact g'.2.2 k e
  · refine (object8_any H ho e h1).mono fun q w' ⟨v1, he, g⟩ => ⟨v1, _, ?_, hn (by omega) v1 w' g⟩
    rw [he]; simp [OD.ao, e]
  · refine (object9_any H ho e h1).mono fun q w' ⟨v1, he, g⟩ => ⟨v1, _, ?_, hn (by omega) v1 w' g⟩
    rw [he]; simp [OD.ao, e]
end Go.Proofs.Ytfoanikkngmeiaa.hp
