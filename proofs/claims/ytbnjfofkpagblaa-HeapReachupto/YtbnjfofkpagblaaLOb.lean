/-
  objects: all that a heap holds.
-/
import Derived.Test.YtbnjfofkpagblaaLLd
namespace Go.Proofs.Ytbnjfofkpagblaa
open Go.RowKit
set_option linter.unusedVariables false
set_option linter.unusedSimpArgs false
theorem outV_ob {w w' : World} {d : hp.OD} {v1 v2 : Value} (h : hp.OutV w w' d.ao v1 v2) : ObO w' d.ob ⟨d.ob.kind, v1, v2, d.ob.fn, d.ob.cap, d.ob.shut⟩ := by
  obtain ⟨h1, h2, _⟩ := h
  refine ⟨rfl, rfl, rfl, rfl, h1, ?_⟩
  show Ro w' 1 v2 _ (flt enL _)
  rw [flL_map]
  exact h2
set_option maxRecDepth 100000 in
set_option maxHeartbeats 3200000 in
theorem objects_any {w : World} {h : Nat} {bud sp : Int} {ov : Value} {ds : List hp.OD} (H : hp.Hp w h bud sp ov ds) (hN : ds.length ≤ 1048576) (hS : ∀ d ∈ ds, d.its.length ≤ 4096 ∧ d.keys.length ≤ 4096) :
    Calls Try.prog 23 #[.pointer (some ⟨h, 0, none⟩), .int .i64 (ds.length : Int)] w (CpOs w (ds.map (·.ob))) := by
  have HC : Hid (∀ W (i : Nat) d, Below w.heap.size w W → ds[i]? = some d → Calls Try.prog 20 #[.pointer (some ⟨h, 0, none⟩), .int .i64 (i : Int)] W fun e w' => ∃ v1 v2, e = .returned (.tuple #[.agg #[.int .i64 d.ob.kind, v1, v2, .int .i64 d.ob.fn, .int .i64 d.ob.cap, .bool d.ob.shut], .bool true]) ∧ hp.OutV W w' d.ao v1 v2 ∧ Below W.heap.size W w') := fun W i d b hd => hp.object_all (H.below b) hd (hS d (List.mem_of_getElem? hd)).1 (hS d (List.mem_of_getElem? hd)).2
  have HSS := hide hS
  obtain ⟨L, hL⟩ : ∃ L, Hid (ds.length = L) := ⟨_, hide rfl⟩
  rw [unhide hL] at hN ⊢
  clear H hS
  go_enter Try.func23, Try.ntmps23
  go_wp2_with fail
  go_loopg [5, 6, 7, 8] L (fun g t5 t6 t7 t8 wr => ∃ (i : Nat) (v : Value) (xs : List Obv), Hid (i + g = L) ∧ t5 = v ∧ t6 = .int .i64 (i : Int) ∧ Hid (OO (fun k => w.heap.size ≤ k) wr v ((ds.map (·.ob)).take i) xs ∧ Below w.heap.size w wr))
  case atStart => exact ⟨0, _, [], by unfold Hid; omega, rfl, rfl, by simpa using OW.nil _, Below.refl _ _⟩
  case round =>
    obtain ⟨i, v, xs, hi, e3, rfl, hG⟩ := hrel
    obtain rfl := e3.symm
    by_cases hlt : i < L
    · obtain ⟨d, hd⟩ : ∃ d, ds[i]? = some d := ⟨_, List.getElem?_eq_getElem (by rw [unhide hL]; exact hlt)⟩
      have i0 : (0 : Int) ≤ (i : Int) := by omega
      have i1 : (i : Int) < (L : Int) := by omega
      have htl : ((ds.map (·.ob)).take i).length = i := by simp; rw [unhide hL]; omega
      have HF : Hid ((ds.map (·.ob))[i]? = some d.ob) := hide (by rw [List.getElem?_map, hd]; rfl)
      have HCC := hide (unhide HC wr i d (unhide hG).2 hd)
      have HBD : Hid (d.ob.its.length ≤ 4096 ∧ d.ob.keys.length ≤ 4096) := hide (unhide HSS d (List.mem_of_getElem? hd))
      clear hd
      go_wp2_with fail
      refine (unhide HCC).mono ?_
      rintro e w1 ⟨v1, v2, rfl, hov, hg1⟩
      have hv := outV_ob hov
      have hn : ∀ k, blO ⟨d.ob.kind, v1, v2, d.ob.fn, d.ob.cap, d.ob.shut⟩ k → wr.heap.size ≤ k ∧ k < w1.heap.size := fun k hk => ⟨hov.2.2 k hk, by
        rcases hk with hk | hk
        · exact hov.1.lt k hk
        · exact hov.2.1.lt k hk⟩
      obtain ⟨va, vc, ya, yc, ex, _, _, _, _⟩ := hv.v.parts
      injection ex with _ ev1 ev2 _ _ _
      subst ev1
      subst ev2
      generalize d.ob = f at *
      have HV := hide hv
      have HN := hide hn
      have HB1 := hide hg1
      have HRo : Hid (∀ O O2, Ro ((w1.alloc O).alloc O2) 6 v i (flt enO xs)) := fun O O2 => by
        have := (unhide hG).1.row.fr (((Fr.of_below (S := fun _ => False) hg1).alloc O).alloc O2) (fun _ _ e => e)
        rw [htl] at this
        exact this
      have HNC := hide (fun O => new_cells (w1.alloc O) #[.int .i64 f.kind, .slice va f.its.length vc, .slice ya f.keys.length yc, .int .i64 f.fn, .int .i64 f.cap, .bool f.shut] 49)
      simp only [World.size_alloc] at HNC
      clear hv hn hg1 hov HCC
      go_wp2_with (first | (at_builtin; refine appO rfl _ _ rfl _ i xs rfl (unhide HRo _ _) ⟨w1.heap.size + 1, 0, none⟩ 1 ⟨f.kind, .slice va f.its.length vc, .slice ya f.keys.length yc, f.fn, f.cap, f.shut⟩ rfl (unhide HNC _) rfl rfl (by omega) ?_))
      intro v' w2 hr hg hat
      have hb2 : ∀ O O2, Below wr.heap.size wr ((w1.alloc O).alloc O2) := fun O O2 => bl_past (unhide HB1) (bl_two w1 O O2)
      have hv2 : ∀ O O2, ObO ((w1.alloc O).alloc O2) f ⟨f.kind, .slice va f.its.length vc, .slice ya f.keys.length yc, f.fn, f.cap, f.shut⟩ := fun O O2 => staysO (fun _ => False) _ _ _ _ (unhide HV) (Fr.of_below (bl_two w1 O O2)) (fun _ _ e => e)
      have hsw := (unhide hG).2.size
      obtain ⟨hof2, hfr⟩ := (unhide hG).1.push staysO (hb2 _ _) (hv2 _ _) (fun k hk => ⟨(unhide HN k hk).1, Nat.lt_of_lt_of_le (unhide HN k hk).2 (by simp only [World.size_alloc]; omega)⟩) (fun k hk => by omega) hr (by rw [htl]) hg (by simpa using hat)
      rw [← take_push (unhide HF)] at hof2
      have HG2 : Hid (OO (fun k => w.heap.size ≤ k) w2 v' ((ds.map (·.ob)).take (i + 1)) (xs ++ [⟨f.kind, .slice va f.its.length vc, .slice ya f.keys.length yc, f.fn, f.cap, f.shut⟩]) ∧ Below w.heap.size w w2) := ⟨hof2, (unhide hG).2.trans (hfr.below hsw (fun k hk e => by have := (unhide hG).1.rb k e; omega))⟩
      clear hr hg hat hof2 hfr hb2 hv2 hsw
      go_wp2_with fail
      go_roundg (gk - 1)
      case measure => have := unhide hi; omega
      case rel => exact ⟨i + 1, v', _, by have := unhide hi; unfold Hid; omega, rfl, by go_num, HG2⟩
    · have hiL : i = L := by have := unhide hi; omega
      subst hiL
      have hG0 := unhide hG
      rw [List.take_of_length_le (by rw [List.length_map, unhide hL]; exact Nat.le_refl _)] at hG0
      have HG0 := hide hG0
      clear hG hG0
      go_wp2_with fail
      go_ret
      exact ⟨_, _, rfl, unhide HG0⟩
end Go.Proofs.Ytbnjfofkpagblaa
