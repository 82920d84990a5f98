/-
  Object of a record.
-/
import Derived.Test.YtkpngfahnpidkaaRTold
namespace Go.Proofs.Ytkpngfahnpidkaa
open Go.RowKit
set_option linter.unusedVariables false
set_option linter.unusedSimpArgs false

set_option maxRecDepth 100000 in
set_option maxHeartbeats 6400000 in
theorem object7_any {w : World} {h : Nat} {bud sp : Int} {ov : Value} {os : List OD} (H : Hp w h bud sp ov os) {n : Nat} {o : OD} (ho : os[n]? = some o) (hk : o.k = 7) (h1 : o.its.length ≤ 4096) (h2 : o.keys.length ≤ 4096) :
    Calls Try.prog 26 #[.pointer (some ⟨h, 0, none⟩), .int .i64 (n : Int)] w fun e w' => ∃ v1 v2, e = .returned (.tuple #[.agg (objC 7 v1 v2), .bool true]) ∧ Gw w o.its v1 w' ∧ Gk w o.keys v2 w' := by
  have hn : n < os.length := (List.getElem?_eq_some_iff.1 ho).1
  have hB : Below w.heap.size w (w.alloc (.cells (objC 0 (.slice none 0 0) (.slice none 0 0)) 56)) := (Below.refl _ _).alloc (Nat.le_refl _) _
  have hz : (w.alloc (.cells (objC 0 (.slice none 0 0) (.slice none 0 0)) 56)).heap.size = w.heap.size + 1 := by simp
  have H0 := H.below hB
  have O0 := Obx.new w 0 (.slice none 0 0) (.slice none 0 0) 56
  have HT := hide (told7_any (H0.ok _ _ ho) hk h1 h2)
  obtain ⟨g, off, cap, ev, hc1, hc2, hg, hcell⟩ := H0.row.full (by omega)
  have hcn := hcell n (by omega)
  rw [List.getElem?_map, ho] at hcn
  have ef : o.face = .iface 86 (.pointer (some ⟨o.b, 0, none⟩)) := by unfold OD.face; rw [hk]; rfl
  simp only [Option.map_some, ef] at hcn
  have hc := H0.c2
  rw [ev] at hc
  have hl := H.hlt
  have hlA := H0.hlt
  have d0 : decide (((n : Nat) : Int) < 0) = false := decide_eq_false (by omega)
  have i1 : ((n : Nat) : Int) < (os.length : Int) := by omega
  have i0 : (0 : Int) ≤ ((n : Nat) : Int) := by omega
  have d1 : decide (((n : Nat) : Int) ≥ (os.length : Int)) = false := decide_eq_false (by omega)
  have HB := hide hB
  have HO := hide O0
  have HZ := hide hz
  unfold objC at HT hcn hc hlA hg
  clear H H0 ev hcell ho hk ef hB O0 hz
  generalize os.length = LL at *
  go_enter Try.func26, Try.ntmps26
  go_wp2_with fail
  refine (unhide HT).mono ?_
  rintro e1 w1 ⟨v1, v2, rfl, g1, k1⟩
  obtain ⟨va, vc, rfl, _⟩ := g1.1.shape
  obtain ⟨ua, uc, rfl, _⟩ := k1.1.shape
  have b1 : Below (w.alloc (.cells (objC 0 (.slice none 0 0) (.slice none 0 0)) 56)).heap.size (w.alloc (.cells (objC 0 (.slice none 0 0) (.slice none 0 0)) 56)) w1 := g1.2.1
  have hO1 := (unhide HO).fr (Fr.of_below (S := fun _ => False) b1) (fun e => e)
  obtain ⟨hZ, fz⟩ := hO1.set (k' := 7) (u1 := .slice va o.its.length vc) (u2 := .slice ua o.keys.length uc)
  have hz := unhide HZ
  have s1 := b1.size
  have gge : ∀ k, (Value.slice va o.its.length vc).ownBlock = some k → w.heap.size + 1 ≤ k := fun k hk => by have : (w.alloc (.cells (objC 0 (.slice none 0 0) (.slice none 0 0)) 56)).heap.size ≤ k := g1.2.2 k hk; omega
  have kge : ∀ k, (Value.slice ua o.keys.length uc).ownBlock = some k → w.heap.size + 1 ≤ k := fun k hk => by have : (w.alloc (.cells (objC 0 (.slice none 0 0) (.slice none 0 0)) 56)).heap.size ≤ k := k1.2.2 k hk; omega
  have bW : Below w.heap.size w (w1.setCells w.heap.size 0 (objL 7 (.slice va o.its.length vc) (.slice ua o.keys.length uc))) := ((unhide HB).trans (b1.mono (by omega))).trans (fz.below (by omega) (fun k hk e => by omega))
  have hGw : Gw w o.its (.slice va o.its.length vc) (w1.setCells w.heap.size 0 (objL 7 (.slice va o.its.length vc) (.slice ua o.keys.length uc))) := ⟨g1.1.fr fz (fun k hk e => by have := gge k hk; omega), bW, fun k hk => by have := gge k hk; omega⟩
  have hGk : Gk w o.keys (.slice ua o.keys.length uc) (w1.setCells w.heap.size 0 (objL 7 (.slice va o.its.length vc) (.slice ua o.keys.length uc))) := ⟨k1.1.fr fz (fun k hk e => by have := kge k hk; omega), bW, fun k hk => by have := kge k hk; omega⟩
  have zf := hO1.2
  have t0 := hO1.1 0 (by omega)
  have t1 := hO1.1 1 (by omega)
  have t2 := hO1.1 2 (by omega)
  have t3 := hO1.1 3 (by omega)
  have t4 := hO1.1 4 (by omega)
  have t5 := hO1.1 5 (by omega)
  simp only [objL, List.getElem_cons_zero, List.getElem_cons_succ] at t0 t1 t2 t3 t4 t5
  have hq1 : w.heap.size < w1.heap.size := hO1.lt
  have HZF := hide (And.intro hZ (And.intro hGw hGk))
  clear hGw hGk hZ fz gge kge bW hO1 b1 g1 k1 s1 hz
  go_wp2_with fail
  show bodyPost Try.prog Try.f26 _ Exit.ret _ (w1.setCells w.heap.size 0 (objL 7 (.slice va o.its.length vc) (.slice ua o.keys.length uc)))
  obtain ⟨hZ, hGw, hGk⟩ := unhide HZF
  clear HZF t0 t1 t2 t3 t4 t5 zf hq1
  generalize w1.setCells w.heap.size 0 (objL 7 (.slice va o.its.length vc) (.slice ua o.keys.length uc)) = W8 at *
  have z0 := hZ.1 0 (by omega)
  have z1 := hZ.1 1 (by omega)
  have z2 := hZ.1 2 (by omega)
  have z3 := hZ.1 3 (by omega)
  have z4 := hZ.1 4 (by omega)
  have z5 := hZ.1 5 (by omega)
  simp only [objL, List.getElem_cons_zero, List.getElem_cons_succ] at z0 z1 z2 z3 z4 z5
  refine bodyPost_ret (v := .tuple #[.agg (objC 7 (.slice va o.its.length vc) (.slice ua o.keys.length uc)), .bool true]) (by simp [results, Try.results26, go_sem, objC, z0, z1, z2, z3, z4, z5]) rfl ?_
  exact ⟨_, _, rfl, hGw, hGk⟩
/-- Has the key come up to a place? -/
def th (ks : List Int) (key : Int) (i : Nat) : Bool := (ks.take i).any (· == key)
theorem th_succ {ks : List Int} {key k : Int} {i : Nat} (h : ks[i]? = some k) : th ks key (i + 1) = (th ks key i || (k == key)) := by
  unfold th
  rw [List.take_add_one, h, List.any_append]
  simp
theorem th_end {ks : List Int} {key : Int} {L : Nat} (h : ks.length = L) : th ks key L = (fx ks key).isSome := by
  unfold th
  rw [List.take_of_length_le (by omega)]
  cases e : fx ks key with
  | none =>
    have := fx_none.1 e
    simp only [Option.isSome_none, List.any_eq_false]
    intro x hx
    simp
    exact fun q => this (q ▸ hx)
  | some i =>
    simp only [Option.isSome_some, List.any_eq_true]
    exact ⟨key, List.mem_of_getElem? (fx_some e).1, by simp⟩
theorem fx_nodup {ks : List Int} {k : Int} {i : Nat} (hd : ks.Nodup) (h : ks[i]? = some k) : fx ks k = some i := by
  refine fx_of h (fun j hj e => ?_)
  obtain ⟨h1, h2⟩ := List.getElem?_eq_some_iff.1 h
  obtain ⟨h3, h4⟩ := List.getElem?_eq_some_iff.1 e
  have := (List.getElem_inj hd).1 (h4.trans h2.symm)
  omega
end Go.Proofs.Ytkpngfahnpidkaa
