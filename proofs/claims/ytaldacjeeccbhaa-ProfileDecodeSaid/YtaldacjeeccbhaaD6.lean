/-
  Decode.
-/
import Derived.Test.YtaldacjeeccbhaaD5
namespace Go.Proofs.Ytaldacjeeccbhaa
open Go.RowKit
set_option linter.unusedVariables false
set_option linter.unusedSimpArgs false
def DcP (w : World) (o : Except Int (List (List Sp))) (e : Ending) (w' : World) : Prop := Below w.heap.size w w' ∧
  match o with
  | .error k => k ≠ 0 ∧ e = .returned (.tuple #[.agg #[.slice none 0 0], .int .i64 k])
  | .ok f => ∃ v vs, e = .returned (.tuple #[.agg #[v], .int .i64 0]) ∧ PO (fun k => w.heap.size < k) w' v f vs
theorem Rdr.near {w : World} {r rb q : Nat} {v : Value} {bs : List Int} {e : Int} (h : Rdr w r rb v bs e) (hq : q < w.heap.size) (hn : q ≠ r) : ∃ rb', rb' < w.heap.size ∧ Rdr w r rb' v bs e := by
  rcases h.rd with ⟨e1, e2⟩ | ⟨b, off, cap, e1, _, _, hb, _⟩
  · exact ⟨q, hq, h.c0, h.c1, h.f0, h.f1, h.rd, (fun b off len cap e => by rw [e1] at e; cases e), hn⟩
  · have := h.ap b off _ cap e1
    exact ⟨rb, by omega, h⟩
set_option maxRecDepth 100000 in
set_option maxHeartbeats 6400000 in
theorem decode_any {w : World} {v : Value} {bs : List Int} (h : Rd w v bs) (hB : BOk bs) (hbl : bs.length ≤ 140737488355328) : Calls Try.prog 20 #[v] w (DcP w (decP bs)) := by
  have hb1 := bl_one w (.cells #[.slice none 0 0] 24)
  have HNR := hide (newReader_any v bs (w.alloc (.cells #[.slice none 0 0] 24)) (h.below hb1) hbl)
  have HBX := hide (heap_alloc_new w (.cells #[.slice none 0 0] 24))
  have HB1 := hide hb1
  have hs1 : (w.alloc (.cells #[.slice none 0 0] 24)).heap.size = w.heap.size + 1 := by simp
  rw [hs1] at HNR
  have HBL := hide hbl
  have HOK := hide hB
  clear h hb1 hB hbl
  go_enter Try.func20, Try.ntmps20
  go_wp2_with fail
  refine (unhide HNR).mono ?_
  rintro e w1 ⟨r, rb, v2, rfl, hr1, _, hv2, b1⟩
  have b1' : Below (w.heap.size + 1) (w.alloc (.cells #[.slice none 0 0] 24)) w1 := b1
  have hsz1 := b1'.size
  rw [hs1] at hsz1
  obtain ⟨rb', hrb', hv3⟩ := hv2.near (q := w.heap.size) (by omega) (by omega)
  have HC := hide (readProfile_any r v2 bs w1 hv3 (unhide HOK) hrb' (unhide HBL))
  have hbx1 := (b1'.block w.heap.size (by omega)).trans (unhide HBX)
  have HB1' := hide ((unhide HB1).trans (b1'.mono (by omega)))
  have HBX1 := hide hbx1
  clear hv2 hv3 b1 b1' HNR HBX hbx1
  go_wp2_with fail
  refine (unhide HC).mono ?_
  rintro e w2 ⟨f2, hm⟩
  have hbx2 := (f2.block w.heap.size (by omega) (by show ¬ w.heap.size = r; omega)).trans (unhide HBX1)
  have hsz2 := f2.size
  have HB2 : Hid (Below w.heap.size w w2) := (unhide HB1').trans (f2.below (by omega) (fun k hk e => by have e' : k = r := e; omega))
  cases ho : decP bs with
  | error k0 =>
    have HO := hide ho
    rw [ho] at hm
    obtain ⟨hk0, pa, pn, pc, rfl⟩ := hm
    have dk : (k0 != 0) = true := by simpa using hk0
    obtain ⟨c1, c2, c3⟩ := blk_cells hbx2
    have y0 := c1 0
    have g0 := c2 0
    simp at y0
    clear HC c1 c2 f2 HBX1 HB1' hbx2 ho
    go_wp2_with fail
    refine bodyPost_ret (v := .tuple #[.agg #[.slice none 0 0], .int .i64 k0]) ?_ rfl ?_
    · rw [results_cell_tmp rfl]
      go_simp
    · show DcP w (decP bs) _ _
      rw [unhide HO]
      refine ⟨?_, hk0, rfl⟩
      have fz : Fr (fun k => k = w.heap.size) w2 ((w2.setCell ⟨w.heap.size, 0, none⟩ (.slice none 0 0)).alloc (.cells #[.slice pa pn pc] 24)) := (Fr.setCell (S := fun k => k = w.heap.size) (Fr.refl _ w2) ⟨w.heap.size, 0, none⟩ (.inr rfl) _).alloc _
      exact (unhide HB2).trans (fz.below (unhide HB2).size (fun k hk e => by have e' : k = w.heap.size := e; omega))
  | ok f =>
    have HO := hide ho
    rw [ho] at hm
    obtain ⟨pv, vs, rfl, hpo⟩ := hm
    obtain ⟨pa, pc, ep, _, _⟩ := hpo.row.shape
    subst ep
    obtain ⟨c1, c2, c3⟩ := blk_cells hbx2
    have y0 := c1 0
    have g0 := c2 0
    simp at y0
    have HPO := hide hpo
    clear HC c1 c2 f2 HBX1 HB1' hbx2 ho hpo
    go_wp2_with fail
    refine bodyPost_ret (v := .tuple #[.agg #[.slice pa f.length pc], .int .i64 0]) ?_ rfl ?_
    · rw [results_cell_tmp rfl]
      go_simp
    · show DcP w (decP bs) _ _
      rw [unhide HO]
      have fz : Fr (fun k => k = w.heap.size) w2 ((w2.setCell ⟨w.heap.size, 0, none⟩ (.slice pa f.length pc)).alloc (.cells #[.slice pa f.length pc] 24)) := (Fr.setCell (S := fun k => k = w.heap.size) (Fr.refl _ w2) ⟨w.heap.size, 0, none⟩ (.inr rfl) _).alloc _
      refine ⟨(unhide HB2).trans (fz.below (unhide HB2).size (fun k hk e => by have e' : k = w.heap.size := e; omega)), _, vs, rfl, ?_⟩
      exact ((unhide HPO).frZ staysR fz (fun k _ hk e => by have e' : k = w.heap.size := e; omega)).mono (fun k _ hk => by have hk' : w1.heap.size < k := hk; show w.heap.size < k; omega)
end Go.Proofs.Ytaldacjeeccbhaa
