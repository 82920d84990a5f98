/-
  Raw of a reader, and NewReader.
-/
import Derived.Test.YtonnkaphomonpaaMeths2
namespace Go.Proofs.Ytonnkaphomonpaa
open Go.RowKit

theorem addr_add (b off j : Nat) : (⟨b, off, none⟩ : Addr).add j = ⟨b, off + j, none⟩ := by unfold Addr.add; split <;> simp_all

/-- slices.Clone, of whatever bytes. -/
theorem clone_any (v : Value) (bs : List Int) (w : World) (h : Rd w v bs) (hb : bs.length ≤ 140737488355328) :
    Calls Try.prog 47 #[v] w fun e w' => ∃ v', e = .returned v' ∧ w'.ownsRow w.heap.size 5 1 v' bs.length (bs.map By) ∧ Below w.heap.size w w' := by
  rcases h with ⟨rfl, rfl⟩ | ⟨b, off, cap, rfl, h1, h2, h3, h4⟩
  · exact (clone_nil w).mono fun e w' ⟨h1, h2⟩ => ⟨_, h1, World.ownsRow_nil _ _ _ _, h2 ▸ Below.refl _ _⟩
  · refine clone_some ⟨b, off, none⟩ bs.length cap (bs.map By) w (by simp) ?_ (by simp [By, Value.oneCell']) hb h3
    intro j u hj
    rw [addr_add]
    have hlt : j < bs.length := by
      have := (List.getElem?_eq_some_iff.1 hj).1
      simpa using this
    rw [h4 j hlt]
    simp [List.getElem?_map, List.getElem?_eq_getElem hlt] at hj
    rw [← hj, List.getD_eq_getElem?_getD, List.getElem?_eq_getElem hlt]; rfl

/-- The error of Raw. -/
def rawErr (n : Int) (e0 : Int) : Int := if e0 = 0 then (if n < 0 then 1 else 2) else e0

set_option maxHeartbeats 400000 in
set_option maxRecDepth 100000 in
theorem newReader_any (v : Value) (bs : List Int) (w : World) (h : Rd w v bs) (hb : bs.length ≤ 140737488355328) :
    Calls Try.prog 25 #[v] w fun e w' => ∃ r rb v2, e = .returned (.pointer (some ⟨r, 0, none⟩)) ∧ w.heap.size ≤ r ∧ w.heap.size ≤ rb ∧ Rdr w' r rb v2 bs 0 ∧ Below w.heap.size w w' := by
  have hC := hide (clone_any v bs w h hb)
  clear h
  go_enter Try.func25, Try.ntmps25
  go_wp2_with fail
  refine (unhide hC).mono ?_
  rintro e w1 ⟨v3, rfl, ho, hB⟩
  obtain ⟨a, l, c, rfl⟩ := own_shape ho
  have HO := hide (And.intro ho hB)
  clear ho hB
  go_wp2
  go_ret
  obtain ⟨ho, hB⟩ := unhide HO
  have hR := Rd.of_own ho
  have hlt := ho.lt
  refine ⟨w1.heap.size, ((Value.slice a l c).ownBlock).getD (w1.heap.size + 1), .slice a l c, rfl, hB.size, ?_, ⟨by simp, by simp, ?_, ?_, hR.keep (S := fun _ => False) ((Fr.refl _ _).alloc _) (by simp), ?_, ?_⟩, hB.alloc hB.size _⟩
  · cases a with
    | none => simp [Value.ownBlock]; have := hB.size; omega
    | some x => exact (hlt x.block rfl).1
  · simp only [World.frozen?, heap_alloc_new]; rfl
  · simp only [World.frozen?, heap_alloc_new]; rfl
  · intro b off len cap hv
    rw [hv]; rfl
  · cases a with
    | none => simp [Value.ownBlock]
    | some x => have := (hlt x.block rfl).2; simp [Value.ownBlock]; omega

set_option maxHeartbeats 400000 in
set_option maxRecDepth 100000 in
theorem newReader_at (k0 : Nat) (v : Value) (bs : List Int) (w : World) (h : Rd w v bs) (hb : bs.length ≤ 140737488355328) (hk0 : k0 < w.heap.size) :
    Calls Try.prog 25 #[v] w fun e w' => ∃ r rb v2, e = .returned (.pointer (some ⟨r, 0, none⟩)) ∧ w.heap.size ≤ r ∧ (rb = k0 ∨ w.heap.size ≤ rb) ∧ rb < w'.heap.size ∧ Rdr w' r rb v2 bs 0 ∧ Below w.heap.size w w' := by
  have hC := hide (clone_any v bs w h hb)
  clear h
  go_enter Try.func25, Try.ntmps25
  go_wp2_with fail
  refine (unhide hC).mono ?_
  rintro e w1 ⟨v3, rfl, ho, hB⟩
  obtain ⟨a, l, c, rfl⟩ := own_shape ho
  have HO := hide (And.intro ho hB)
  clear ho hB
  go_wp2
  go_ret
  obtain ⟨ho, hB⟩ := unhide HO
  have hR := Rd.of_own ho
  have hlt := ho.lt
  refine ⟨w1.heap.size, ((Value.slice a l c).ownBlock).getD k0, .slice a l c, rfl, hB.size, ?_, ?_, ⟨by simp, by simp, ?_, ?_, hR.keep (S := fun _ => False) ((Fr.refl _ _).alloc _) (by simp), ?_, ?_⟩, hB.alloc hB.size _⟩
  · cases a with
    | none => exact .inl rfl
    | some x => exact .inr (hlt x.block rfl).1
  · cases a with
    | none => simp [Value.ownBlock]; have := hB.size; omega
    | some x => have := (hlt x.block rfl).2; simp [Value.ownBlock]; omega
  · simp only [World.frozen?, heap_alloc_new]; rfl
  · simp only [World.frozen?, heap_alloc_new]; rfl
  · intro b off len cap hv
    rw [hv]; rfl
  · cases a with
    | none => simp [Value.ownBlock]; have := hB.size; omega
    | some x => have := (hlt x.block rfl).2; simp [Value.ownBlock]; omega

set_option maxHeartbeats 400000 in
set_option maxRecDepth 100000 in
theorem rLeft_any (r : Nat) {rb : Nat} (v : Value) (bs : List Int) (e0 : Int) (w : World) (h : Rdr w r rb v bs e0) :
    Calls Try.prog 26 #[.pointer (some ⟨r, 0, none⟩)] w fun e w' => e = .returned (.int .i64 (bs.length : Int)) ∧ w' = w := by
  obtain ⟨a, cap, rfl⟩ := h.shape
  have c0 := h.c0
  clear h
  go_enter Try.func26, Try.ntmps26
  go_wp2
  go_ret
  exact ⟨rfl, rfl⟩

set_option maxHeartbeats 400000 in
set_option maxRecDepth 100000 in
theorem rErr_any (r : Nat) {rb : Nat} (v : Value) (bs : List Int) (e0 : Int) (w : World) (h : Rdr w r rb v bs e0) :
    Calls Try.prog 49 #[.pointer (some ⟨r, 0, none⟩)] w fun e w' => e = .returned (.int .i64 e0) ∧ w' = w := by
  have c1 := h.c1
  clear h
  go_enter Try.func49, Try.ntmps49
  go_wp2
  go_ret
  exact ⟨rfl, rfl⟩

/-- What End answers. -/
def rEnd (bs : List Int) (e0 : Int) : Int := if e0 = 0 then (if bs.length = 0 then 0 else 3) else e0

end Go.Proofs.Ytonnkaphomonpaa
