/-
  One call of HeapMakes: both answer alike.
-/
import Derived.Test.YtkpngfahnpidkaaMAk
namespace Go.Proofs.Ytkpngfahnpidkaa
open Go.RowKit
set_option linter.unusedVariables false

theorem room_true {bud sp n : Int} : room bud sp n = true ↔ 0 ≤ n ∧ sp ≤ bud ∧ n ≤ bud - sp := by simp [room, and_assoc]
theorem room_false {bud sp n : Int} : room bud sp n = false ↔ n < 0 ∨ bud < sp ∨ bud - sp < n := by
  rw [← Bool.not_eq_true, room_true]
  omega
/-- What is so of all objects. -/
def All (q : List AO) : Prop := ∀ a, a ∈ q → a.keys = [] ∧ a.its.length ≤ 4096
theorem All.push {q0 : List AO} {a : AO} (h : All q0) (h1 : a.keys = []) (h2 : a.its.length ≤ 4096) : All (q0 ++ [a]) := fun x hx => by
  rcases List.mem_append.1 hx with q | q
  · exact h x q
  · simp at q; subst q; exact ⟨h1, h2⟩
/-- A call, of both. -/
def Two (W : World) (h r : Nat) (bud sp : Int) (ov : Value) (os : List OD) (rv : Value) (ds : List RD) (c : Int) (p : OpD) (l : List (Int × Int)) : Prop :=
  ∃ s sp' as', s.a.keys = [] ∧ (0 ≤ sp' ∧ sp' < 9223372036854775808) ∧ as'.length ≤ ds.length + 1 ∧ All as' ∧ (∀ w1, RtV w1 p.lv l → Rh w1 r bud sp rv ds → Tl w1 r bud sp rv ds c p s sp' as') ∧ (∀ w1, Below W.heap.size W w1 → Hp w1 h bud sp ov os → (∀ q, Fts h ov os q → W.heap.size ≤ q) → Ak w1 h bud sp ov os c p s sp' as')
theorem two_any {W : World} {h r : Nat} {bud sp : Int} {ov : Value} {os : List OD} {rv : Value} {ds : List RD} {p : OpD} {l : List (Int × Int)} (hRt : RtV W p.lv l) (hN : l.length ≤ 8796093021952) (hb : 0 ≤ bud ∧ bud < 9223372036854775808) (hs : 0 ≤ sp ∧ sp < 9223372036854775808) (hag : os.map OD.ao = ds.map (·.a)) (hall : All (ds.map (·.a))) (hL : ds.length ≤ 1650000000000) (c : Int) (hc : 0 ≤ c ∧ c ≤ 6) : Two W h r bud sp ov os rv ds c p l := by
  have hlen : os.length = ds.length := by have := congrArg List.length hag; simpa using this
  have hz : (SD.plain 0 0 false).a.keys = [] := rfl
  have h0 : (ds.map (·.a)).length ≤ ds.length + 1 := by simp
  have hp1 : ∀ a : AO, (ds.map (·.a) ++ [a]).length ≤ ds.length + 1 := fun a => by simp
  have no : ∀ (t : ∀ w1, RtV w1 p.lv l → Rh w1 r bud sp rv ds → Tl w1 r bud sp rv ds c p (SD.plain 0 0 false) sp (ds.map (·.a))) (k : ∀ w1, Below W.heap.size W w1 → Hp w1 h bud sp ov os → (∀ q, Fts h ov os q → W.heap.size ≤ q) → Ak w1 h bud sp ov os c p (SD.plain 0 0 false) sp (os.map OD.ao)), Two W h r bud sp ov os rv ds c p l := fun t k => ⟨_, _, _, hz, hs, h0, hall, t, by rw [← hag]; exact k⟩
  have hc' : c = 0 ∨ c = 1 ∨ c = 2 ∨ c = 3 ∨ c = 4 ∨ c = 5 ∨ c = 6 := by omega
  rcases hc' with rfl | rfl | rfl | rfl | rfl | rfl | rfl
  · cases e : room bud sp p.n
    · have e' := room_false.1 e
      exact no (fun w1 q H => tl_spend_no q hN H hb hs e) (fun w1 b H f => ak_spd_no hRt hN b H hb hs f (by omega))
    · have e' := room_true.1 e
      exact ⟨_, _, _, rfl, ⟨by omega, by omega⟩, h0, hall, fun w1 q H => tl_spend_ok q hN H hb hs e, by rw [← hag]; exact fun w1 b H f => ak_spd_ok hRt hN b H hb hs f e'.1 e'.2.2⟩
  · refine ⟨_, _, _, rfl, hs, h0, hall, fun w1 q H => tl_counts q hN H hb hs, ?_⟩
    rw [← hag, ← hlen]
    exact fun w1 b H f => ak_counts hRt hN b H hb hs f
  · by_cases hn : 0 ≤ p.n ∧ p.n < (ds.length : Int)
    · obtain ⟨i, hi⟩ : ∃ i : Nat, p.n = (i : Int) := ⟨p.n.toNat, by omega⟩
      have hil : i < ds.length := by omega
      have hd : ds[i]? = some ds[i] := List.getElem?_eq_getElem hil
      have ho : os[i]? = some (os[i]'(by omega)) := List.getElem?_eq_getElem (by omega)
      have hoa : (os[i]'(by omega)).ao = ds[i].a := by
        have := congrArg (fun q => q[i]?) hag
        simp only [List.getElem?_map, hd, ho, Option.map_some] at this
        exact Option.some.inj this
      obtain ⟨k1, k2⟩ := hall _ (List.mem_map.2 ⟨_, List.mem_of_getElem? hd, rfl⟩)
      refine ⟨⟨0, 0, 0, 0, true, ds[i].a⟩, _, _, k1, hs, h0, hall, fun w1 q H => tl_obj_hit q hN H hb hs hi hd k1 k2 (by omega), ?_⟩
      rw [← hag, ← hoa]
      have m1 : (os[i]'(by omega)).keys = [] := by have : (os[i]'(by omega)).ao.keys = [] := by rw [hoa]; exact k1
                                                   exact this
      have m2 : (os[i]'(by omega)).its.length ≤ 4096 := by have : (os[i]'(by omega)).ao.its.length ≤ 4096 := by rw [hoa]; exact k2
                                                           exact this
      exact fun w1 b H f => ak_obj_hit hRt hN b H hb hs f hi ho m1 m2
    · exact no (fun w1 q H => tl_obj_miss q hN H hb hs (by omega) (by omega)) (fun w1 b H f => ak_obj_miss hRt hN b H hb hs f (by omega))
  · by_cases h4 : l.length ≤ 4096
    · cases e : room bud sp (2 + (l.length : Int))
      · have e' := room_false.1 e
        exact no (fun w1 q H => tl_arr_no q hN H hb hs h4 e) (fun w1 b H f => ak_arr_no hRt hN b H hb hs f h4 (by omega))
      · have e' := room_true.1 e
        refine ⟨_, _, _, rfl, ⟨by omega, by omega⟩, hp1 _, hall.push rfl h4, fun w1 q H => tl_arr_ok q hN H hb hs h4 e (by omega), ?_⟩
        rw [← hag, ← hlen]
        exact fun w1 b H f => ak_arr_ok hRt hN b H hb hs f h4 (by omega) (by omega)
    · exact no (fun w1 q H => tl_arr_bad q hN H hb hs (by omega)) (fun w1 b H f => ak_arr_bad hRt hN b H hb hs f (by omega))
  · cases e : room bud sp 2
    · have e' := room_false.1 e
      exact no (fun w1 q H => tl_rec_no q hN H hb hs e) (fun w1 b H f => ak_rec_no hRt hN b H hb hs f (by omega))
    · have e' := room_true.1 e
      refine ⟨_, _, _, rfl, ⟨by omega, by omega⟩, hp1 _, hall.push rfl (by simp), fun w1 q H => tl_rec_ok q hN H hb hs e (by omega), ?_⟩
      rw [← hag, ← hlen]
      exact fun w1 b H f => ak_rec_ok hRt hN b H hb hs f (by omega) (by omega)
  · by_cases h4 : l.length ≤ 4096
    · by_cases hf : 0 ≤ p.n
      · cases e : room bud sp (2 + (l.length : Int))
        · have e' := room_false.1 e
          exact no (fun w1 q H => tl_bnd_no q hN H hb hs hf h4 e) (fun w1 b H f => ak_bnd_no hRt hN b H hb hs f hf h4 (by omega))
        · have e' := room_true.1 e
          refine ⟨_, _, _, rfl, ⟨by omega, by omega⟩, hp1 _, hall.push rfl h4, fun w1 q H => tl_bnd_ok q hN H hb hs hf h4 e (by omega), ?_⟩
          rw [← hag, ← hlen]
          exact fun w1 b H f => ak_bnd_ok hRt hN b H hb hs f hf h4 (by omega) (by omega)
      · exact no (fun w1 q H => tl_bnd_bad2 q hN H hb hs (by omega) h4) (fun w1 b H f => ak_bnd_bad2 hRt hN b H hb hs f (by omega))
    · by_cases hf : 0 ≤ p.n
      · exact no (fun w1 q H => tl_bnd_bad1 q hN H hb hs (by omega)) (fun w1 b H f => ak_bnd_bad1 hRt hN b H hb hs f hf (by omega))
      · exact no (fun w1 q H => tl_bnd_bad1 q hN H hb hs (by omega)) (fun w1 b H f => ak_bnd_bad2 hRt hN b H hb hs f (by omega))
  · by_cases h1 : 1 ≤ p.n
    · by_cases h2 : p.n ≤ 64
      · cases e : room bud sp (2 + p.n)
        · have e' := room_false.1 e
          exact no (fun w1 q H => tl_chn_no q hN H hb hs h1 h2 e) (fun w1 b H f => ak_chn_no hRt hN b H hb hs f h1 h2 (by omega))
        · have e' := room_true.1 e
          refine ⟨_, _, _, rfl, ⟨by omega, by omega⟩, hp1 _, hall.push rfl (by simp), fun w1 q H => tl_chn_ok q hN H hb hs h1 h2 e (by omega), ?_⟩
          rw [← hag, ← hlen]
          exact fun w1 b H f => ak_chn_ok hRt hN b H hb hs f h1 h2 (by omega) (by omega)
      · exact no (fun w1 q H => tl_chn_bad2 q hN H hb hs (by omega)) (fun w1 b H f => ak_chn_bad2 hRt hN b H hb hs f h1 (by omega))
    · exact no (fun w1 q H => tl_chn_bad1 q hN H hb hs (by omega)) (fun w1 b H f => ak_chn_bad1 hRt hN b H hb hs f (by omega))
end Go.Proofs.Ytkpngfahnpidkaa
