/-
  called: what a value names that can be called.
-/
import Derived.Test.YtfoanikkngmeiaaDLd
import Derived.Test.YtfoanikkngmeiaaRf
namespace Go.Proofs.Ytfoanikkngmeiaa
open Go.RowKit
set_option linter.unusedVariables false
set_option linter.unusedSimpArgs false
theorem outV_ob {w w' : World} {d : hp.OD} {v1 v2 : Value} (h : hp.OutV w w' d.ao v1 v2) : ObO w' d.ob ⟨d.ob.kind, v1, v2, d.ob.fn, d.ob.cap, d.ob.shut⟩ := by
  obtain ⟨h1, h2, _⟩ := h
  refine ⟨rfl, rfl, rfl, rfl, h1, ?_⟩
  show Ro w' 1 v2 _ (flt enL _)
  rw [flL_map]
  exact h2
/-- What a value names that can be called, and what is bound to it. -/
def cld (os : List Ob) (v : Int × Int) : Option (Int × List (Int × Int)) :=
  if v.1 = 5 then some (v.2, []) else if v.1 = 8 then (if 0 ≤ v.2 then (match os[v.2.toNat]? with
    | some o => if o.kind = 8 then some (o.fn, o.its) else none
    | none => none) else none) else none
/-- What Callee answers. -/
def clR (p : Pg) (os : List Ob) (v : Int × Int) (n : Int) : Int × List (Int × Int) × Int := match cld os v with
  | none => (0, [], 1)
  | some (k, l) => match fnAt p k with
    | none => (0, [], 1)
    | some f => if f.params < (l.length : Int) ∨ f.params - (l.length : Int) ≠ n then (0, [], 5) else (k, l, 0)
def CaP (w : World) (r : Int × List (Int × Int) × Int) (e : Ending) (w' : World) : Prop := ∃ a c, e = .returned (.tuple #[.int .i64 r.1, .slice a r.2.1.length c, .int .i64 r.2.2]) ∧ Gx w 2 enI r.2.1 (.slice a r.2.1.length c) w'
def CdP (w : World) (r : Option (Int × List (Int × Int))) (e : Ending) (w' : World) : Prop :=
  (r = none ∧ ∃ k v0, e = .returned (.tuple #[.int .i64 k, v0, .bool false]) ∧ Below w.heap.size w w') ∨
  ∃ k l a c, r = some (k, l) ∧ e = .returned (.tuple #[.int .i64 k, .slice a l.length c, .bool true]) ∧ Gx w 2 enI l (.slice a l.length c) w'
set_option maxRecDepth 100000 in
set_option maxHeartbeats 3200000 in
theorem called_any {w : World} {h : Nat} {bud sp : Int} {ov : Value} {ds : List hp.OD} {os : List Ob} (H : hp.Hp w h bud sp ov ds) (hag : ds.map (·.ob) = os) (hS : ∀ d ∈ ds, d.its.length ≤ 4096 ∧ d.keys.length ≤ 4096) (x y : Int) :
    Calls Try.prog 27 #[.pointer (some ⟨h, 0, none⟩), .agg #[.int .i64 x, .int .i64 y]] w (CdP w (cld os (x, y))) := by
  by_cases h5 : x = 5
  · subst h5
    have hc : cld os (5, y) = some (y, []) := by unfold cld; rw [if_pos rfl]
    have HBX := hide (bl_box w)
    clear H hS
    go_enter Try.func27, Try.ntmps27
    go_wp2_with fail
    go_ret3
    refine .inr ⟨y, [], none, 0, hc, rfl, ?_⟩
    exact ⟨by simpa [flt] using Ro.nil _ 2, unhide HBX _, fun k hk => by simp [Value.ownBlock] at hk⟩
  · by_cases h8 : x = 8
    · subst h8
      by_cases hy : 0 ≤ y ∧ y < (ds.length : Int)
      · obtain ⟨n, rfl⟩ : ∃ n : Nat, y = (n : Int) := ⟨y.toNat, by omega⟩
        obtain ⟨d, hd⟩ : ∃ d, ds[n]? = some d := ⟨_, List.getElem?_eq_getElem (by omega)⟩
        have hod : os[n]? = some d.ob := by rw [← hag, List.getElem?_map, hd]; rfl
        have HC : Hid (∀ O, Calls Try.prog 15 #[.pointer (some ⟨h, 0, none⟩), .int .i64 (n : Int)] (w.alloc O) fun e w' => ∃ v1 v2, e = .returned (.tuple #[.agg #[.int .i64 d.ob.kind, v1, v2, .int .i64 d.ob.fn, .int .i64 d.ob.cap, .bool d.ob.shut], .bool true]) ∧ hp.OutV (w.alloc O) w' d.ao v1 v2 ∧ Below (w.alloc O).heap.size (w.alloc O) w') := hide (fun O => hp.object_all (H.below (bl_box w O)) hd (hS d (List.mem_of_getElem? hd)).1 (hS d (List.mem_of_getElem? hd)).2)
        have hc : cld os (8, (n : Int)) = if d.ob.kind = 8 then some (d.ob.fn, d.ob.its) else none := by
          unfold cld
          rw [if_neg (by show ¬ (8 : Int) = 5; decide), if_pos rfl, if_pos (by show (0 : Int) ≤ (n : Int); omega)]
          simp only [Int.toNat_natCast]
          rw [hod]
        have HBX := hide (bl_box w)
        have HCD := hide hc
        clear H hS hd hod hc hag hy
        go_enter Try.func27, Try.ntmps27
        go_wp2_with fail
        refine (unhide HC _).mono ?_
        rintro e w1 ⟨v1, v2, rfl, hov, b1⟩
        have hv := outV_ob hov
        obtain ⟨va, vc, ya, yc, ex, _, _, _, _⟩ := hv.v.parts
        injection ex with _ ev1 ev2 _ _ _
        subst ev1
        subst ev2
        have HG : Hid (∀ O m, Gx w 2 enI d.ob.its (.slice va d.ob.its.length vc) ((w1.alloc O).drewN m)) := hide (fun O m => by
          have hb := bl_past (bl_past (bl_past (unhide HBX _) b1) (bl_box w1 O)) (bl_drewN (w1.alloc O) m)
          refine ⟨hov.1.fr (Fr.of_below (S := fun _ => False) (bl_past (bl_box w1 O) (bl_drewN (w1.alloc O) m))) (fun _ _ e => e), hb, fun k hk => ?_⟩
          have := hov.2.2 k (.inl hk)
          simp only [World.size_alloc] at this
          omega)
        generalize d.ob = f at *
        have HNC := hide (new_cells w1 #[.int .i64 f.kind, .slice va f.its.length vc, .slice ya f.keys.length yc, .int .i64 f.fn, .int .i64 f.cap, .bool f.shut] 51)
        have n0 := unhide HNC 0 _ rfl
        have n1 := unhide HNC 1 _ rfl
        have n3 := unhide HNC 3 _ rfl
        rw [Go.WideShapes.add_plain, Nat.zero_add] at n0 n1 n3
        have nl : w1.heap.size < (w1.alloc (.cells #[.int .i64 f.kind, .slice va f.its.length vc, .slice ya f.keys.length yc, .int .i64 f.fn, .int .i64 f.cap, .bool f.shut] 51)).heap.size := by simp
        clear hv hov b1 HC HNC HBX
        by_cases hk : f.kind = 8
        · have dk : (f.kind == 8) = true := by simpa using hk
          have hcd : cld os (8, (n : Int)) = some (f.fn, f.its) := by rw [unhide HCD, if_pos hk]
          have HCE := hide hcd
          clear hcd HCD hk
          go_wp2_with fail
          go_quiet (fail)
          go_wp2_with fail
          go_ret3
          exact .inr ⟨f.fn, f.its, va, vc, unhide HCE, rfl, unhide HG _ _⟩
        · have dk : (f.kind == 8) = false := by simpa using hk
          have hcd : cld os (8, (n : Int)) = none := by rw [unhide HCD, if_neg hk]
          have HCE := hide hcd
          clear hcd HCD hk
          go_wp2_with fail
          go_quiet (fail)
          go_wp2_with fail
          go_ret3
          exact .inl ⟨unhide HCE, _, _, rfl, (unhide HG _ _).2.1⟩
      · have HC : Hid (∀ O, Calls Try.prog 15 #[.pointer (some ⟨h, 0, none⟩), .int .i64 y] (w.alloc O) fun e w' => e = .returned (.tuple #[.agg #[.int .i64 0, .slice none 0 0, .slice none 0 0, .int .i64 0, .int .i64 0, .bool false], .bool false]) ∧ Below (w.alloc O).heap.size (w.alloc O) w') := hide (fun O => hp.object_miss (H.below (bl_box w O)) (by omega))
        have hc : cld os (8, y) = none := by
          unfold cld
          rw [if_neg (by show ¬ (8 : Int) = 5; decide), if_pos rfl]
          by_cases y0 : (0 : Int) ≤ y
          · rw [if_pos y0]
            have hl : os.length ≤ y.toNat := by
              have := congrArg List.length hag
              simp at this
              omega
            simp only
            rw [List.getElem?_eq_none hl]
          · rw [if_neg y0]
        have HBX := hide (bl_box w)
        have HCE := hide hc
        clear H hS hc hag hy
        go_enter Try.func27, Try.ntmps27
        go_wp2_with fail
        refine (unhide HC _).mono ?_
        rintro e w1 ⟨rfl, b1⟩
        have HNC := hide (new_cells w1 #[.int .i64 0, .slice none 0 0, .slice none 0 0, .int .i64 0, .int .i64 0, .bool false] 51)
        have n0 := unhide HNC 0 _ rfl
        have n1 := unhide HNC 1 _ rfl
        have n3 := unhide HNC 3 _ rfl
        rw [Go.WideShapes.add_plain, Nat.zero_add] at n0 n1 n3
        have nl : w1.heap.size < (w1.alloc (.cells #[.int .i64 0, .slice none 0 0, .slice none 0 0, .int .i64 0, .int .i64 0, .bool false] 51)).heap.size := by simp
        have HBE : Hid (∀ O m, Below w.heap.size w ((w1.alloc O).drewN m)) := hide (fun O m => bl_past (bl_past (bl_past (unhide HBX _) b1) (bl_box w1 O)) (bl_drewN (w1.alloc O) m))
        clear b1 HC HNC HBX
        go_wp2_with fail
        go_quiet (fail)
        go_wp2_with fail
        go_ret3
        exact .inl ⟨unhide HCE, _, _, rfl, unhide HBE _ _⟩
    · have hc : cld os (x, y) = none := by unfold cld; rw [if_neg h5, if_neg h8]
      have HBX := hide (bl_box w)
      have d5 : (x == 5) = false := by simpa using h5
      have d8 : (x == 8) = false := by simpa using h8
      clear H hS
      go_enter Try.func27, Try.ntmps27
      go_wp2_with fail
      go_ret3
      exact .inl ⟨hc, 0, _, rfl, unhide HBX _⟩
end Go.Proofs.Ytfoanikkngmeiaa
