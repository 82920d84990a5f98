/-
  The document's heap in memory.
-/
import Derived.Test.YtkpngfahnpidkaaPMake
namespace Go.Proofs.Ytkpngfahnpidkaa
open Go.RowKit
set_option linter.unusedVariables false

/-- An object, as it is told. -/
structure AO where
  k : Int
  its : List (Int × Int)
  keys : List Int
  fn : Int
  cap : Int
  shut : Bool
def AO.zero : AO := ⟨0, [], [], 0, 0, false⟩
/-- What is told of an object of the program's. -/
def OD.ao (o : OD) : AO := ⟨(o.k : Int), o.its, o.keys, if o.k = 8 then o.m else 0, if o.k = 9 then o.m else 0, if o.k = 9 then o.shut else false⟩
/-- An object of the document's heap. -/
structure RD where
  a : AO
  iv : Value
  kv : Value
def aoL (a : AO) (iv kv : Value) : List Value := [.int .i64 a.k, iv, kv, .int .i64 a.fn, .int .i64 a.cap, .bool a.shut]
def RD.cells (d : RD) : List Value := aoL d.a d.iv d.kv
theorem RD.cells_length (d : RD) : d.cells.length = 6 := rfl
def rdF (ds : List RD) : List Value := ds.flatMap RD.cells
theorem rdF_length (ds : List RD) : (rdF ds).length = ds.length * 6 := by
  induction ds with
  | nil => rfl
  | cons d r ih => simp only [rdF, List.flatMap_cons, List.length_append, List.length_cons, RD.cells_length] at ih ⊢; omega
theorem rdF_append (ds es : List RD) : rdF (ds ++ es) = rdF ds ++ rdF es := List.flatMap_append
theorem rdF_one (d : RD) : rdF [d] = d.cells := by simp [rdF]
theorem rdF_at : ∀ (ds : List RD) (i : Nat) (d : RD), ds[i]? = some d → ∀ j, j < 6 → (rdF ds)[i * 6 + j]? = d.cells[j]?
  | d0 :: r, 0, d, h, j, hj => by
    simp at h
    subst h
    rw [show rdF (d0 :: r) = d0.cells ++ rdF r from List.flatMap_cons, Nat.zero_mul, Nat.zero_add, List.getElem?_append_left (by rw [RD.cells_length]; exact hj)]
  | d0 :: r, i + 1, d, h, j, hj => by
    simp at h
    rw [show rdF (d0 :: r) = d0.cells ++ rdF r from List.flatMap_cons, List.getElem?_append_right (by rw [RD.cells_length]; omega), RD.cells_length, show (i + 1) * 6 + j - 6 = i * 6 + j by omega]
    exact rdF_at r i d h j hj
/-- It lies there. -/
structure RD.ok (w : World) (d : RD) : Prop where
  items : Ro w 2 d.iv d.a.its.length (flat d.a.its)
  keys : Ro w 1 d.kv d.a.keys.length (kcells d.a.keys)
def RD.mine (d : RD) (k : Nat) : Prop := d.iv.ownBlock = some k ∨ d.kv.ownBlock = some k
theorem RD.ok.lt {w : World} {d : RD} (h : d.ok w) : ∀ k, d.mine k → k < w.heap.size := by
  rintro k (e | e)
  · exact h.items.lt k e
  · exact h.keys.lt k e
theorem RD.ok.keep {S : Nat → Prop} {w w' : World} {d : RD} (h : d.ok w) (f : Fr S w w') (hn : ∀ k, d.mine k → ¬ S k) : d.ok w' :=
  ⟨h.items.fr f (fun k hk => hn k (.inl hk)), h.keys.fr f (fun k hk => hn k (.inr hk))⟩
/-- At block r lies the document's heap of these objects. -/
structure Rh (w : World) (r : Nat) (bud sp : Int) (rv : Value) (ds : List RD) : Prop where
  c0 : w.cell? ⟨r, 0, none⟩ = some (.int .i64 bud)
  c1 : w.cell? ⟨r, 1, none⟩ = some (.int .i64 sp)
  c2 : w.cell? ⟨r, 2, none⟩ = some rv
  free : ∀ j, w.frozen? ⟨r, j, none⟩ = false
  row : Ro w 6 rv ds.length (rdF ds)
  ok : ∀ d, d ∈ ds → d.ok w
  rh : rv.ownBlock ≠ some r
  ap : ∀ d, d ∈ ds → ∀ k, d.mine k → k ≠ r ∧ rv.ownBlock ≠ some k
/-- Its blocks. -/
def Rfs (r : Nat) (rv : Value) (ds : List RD) (k : Nat) : Prop := k = r ∨ rv.ownBlock = some k ∨ ∃ d, d ∈ ds ∧ d.mine k
section
variable {w w' : World} {r : Nat} {bud sp : Int} {rv : Value} {ds : List RD}
theorem Rh.rlt (H : Rh w r bud sp rv ds) : r < w.heap.size := World.block_lt_of_cell? _ _ H.c0
theorem Rh.lt (H : Rh w r bud sp rv ds) : ∀ k, Rfs r rv ds k → k < w.heap.size := by
  rintro k (e | e | ⟨d, hd, e⟩)
  · rw [e]; exact H.rlt
  · exact H.row.lt k e
  · exact (H.ok d hd).lt k e
theorem Rh.keep {S : Nat → Prop} (H : Rh w r bud sp rv ds) (f : Fr S w w') (hn : ∀ k, Rfs r rv ds k → ¬ S k) : Rh w' r bud sp rv ds :=
  have hh := hn r (.inl rfl)
  ⟨(f.cell (a := ⟨r, 0, none⟩) H.rlt hh).trans H.c0, (f.cell (a := ⟨r, 1, none⟩) H.rlt hh).trans H.c1, (f.cell (a := ⟨r, 2, none⟩) H.rlt hh).trans H.c2,
    fun j => (f.frozen (a := ⟨r, j, none⟩) H.rlt hh).trans (H.free j), H.row.fr f (fun k hk => hn k (.inr (.inl hk))), fun d hd => (H.ok d hd).keep f (fun k hk => hn k (.inr (.inr ⟨d, hd, hk⟩))), H.rh, H.ap⟩
theorem Rh.below (H : Rh w r bud sp rv ds) (f : Below w.heap.size w w') : Rh w' r bud sp rv ds := H.keep (Fr.of_below (S := fun _ => False) f) (fun _ _ e => e)
/-- What is spent is written anew. -/
theorem Rh.spent (H : Rh w r bud sp rv ds) (sp' : Int) : Rh (w.setCell ⟨r, 1, none⟩ (.int .i64 sp')) r bud sp' rv ds ∧ Fr (Rfs r rv ds) w (w.setCell ⟨r, 1, none⟩ (.int .i64 sp')) := by
  have f : Fr (fun k => k = r) w (w.setCell ⟨r, 1, none⟩ (.int .i64 sp')) := (Fr.refl (fun k => k = r) w).setCell ⟨r, 1, none⟩ (.inr rfl) _
  refine ⟨⟨?_, World.cell?_setCell_same _ _ _ H.c1, ?_, fun j => by rw [World.frozen?_setCell]; exact H.free j, H.row.fr f (fun k hk e => H.rh (e ▸ hk)), fun d hd => (H.ok d hd).keep f (fun k hk e => (H.ap d hd k hk).1 e), H.rh, H.ap⟩, f.mono (fun k _ e => .inl e)⟩
  · rw [World.cell?_setCell_other _ _ _ _ (by simp)]; exact H.c0
  · rw [World.cell?_setCell_other _ _ _ _ (by simp)]; exact H.c2
/-- An object more. -/
theorem Rh.more (H : Rh w r bud sp rv ds) {d : RD} (hok : d.ok w) (hne : ∀ k, d.mine k → k ≠ r ∧ rv.ownBlock ≠ some k)
    {rv' : Value} {w0 w1 : World} (f0 : Below w.heap.size w w0) (hg : w0.grownBy w1 rv.ownBlock) (hr : Ro w1 6 rv' (ds.length + 1) (rdF ds ++ d.cells)) (hv : rv'.ownBlock = rv.ownBlock ∨ rv'.ownBlock = some w0.heap.size) :
    w1.cell? ⟨r, 2, none⟩ = some rv ∧ w1.frozen? ⟨r, 2, none⟩ = false ∧ Rh (w1.setCell ⟨r, 2, none⟩ rv') r bud sp rv' (ds ++ [d]) ∧ Fr (Rfs r rv ds) w (w1.setCell ⟨r, 2, none⟩ rv') ∧ ∀ k, Rfs r rv' (ds ++ [d]) k → Rfs r rv ds k ∨ d.mine k ∨ w.heap.size ≤ k := by
  have f1 : Fr (fun k => rv.ownBlock = some k) w w1 := (Fr.of_below f0).grown hg (fun k hk => .inr hk)
  have f2 : Fr (fun k => k = r) w1 (w1.setCell ⟨r, 2, none⟩ rv') := (Fr.refl (fun k => k = r) w1).setCell ⟨r, 2, none⟩ (.inr rfl) _
  have hz := f0.size
  have hs1 := f1.size
  have hnew : ∀ k, rv'.ownBlock = some k → rv.ownBlock = some k ∨ w.heap.size ≤ k := fun k hk => by
    rcases hv with q | q
    · exact .inl (q ▸ hk)
    · rw [q] at hk; cases hk; exact .inr hz
  have k0 : w1.cell? ⟨r, 0, none⟩ = some (.int .i64 bud) := (f1.cell (a := ⟨r, 0, none⟩) H.rlt H.rh).trans H.c0
  have k1 : w1.cell? ⟨r, 1, none⟩ = some (.int .i64 sp) := (f1.cell (a := ⟨r, 1, none⟩) H.rlt H.rh).trans H.c1
  have k2 : w1.cell? ⟨r, 2, none⟩ = some rv := (f1.cell (a := ⟨r, 2, none⟩) H.rlt H.rh).trans H.c2
  have kf : ∀ j, w1.frozen? ⟨r, j, none⟩ = false := fun j => (f1.frozen (a := ⟨r, j, none⟩) H.rlt H.rh).trans (H.free j)
  have hvr : rv'.ownBlock ≠ some r := fun e => by
    rcases hnew r e with q | q
    · exact H.rh q
    · have := H.rlt; omega
  have hmem : ∀ x, x ∈ ds ++ [d] → x ∈ ds ∨ x = d := fun x hx => by simpa using hx
  have hap : ∀ x, x ∈ ds ++ [d] → ∀ k, x.mine k → k ≠ r ∧ rv.ownBlock ≠ some k := fun x hx k hk => by
    rcases hmem x hx with q | rfl
    · exact H.ap x q k hk
    · exact hne k hk
  have hokx : ∀ x, x ∈ ds ++ [d] → x.ok w := fun x hx => by
    rcases hmem x hx with q | rfl
    · exact H.ok x q
    · exact hok
  refine ⟨k2, kf 2, ⟨?_, ?_, World.cell?_setCell_same _ _ _ k2, fun j => by rw [World.frozen?_setCell]; exact kf j, ?_, fun x hx => ((hokx x hx).keep f1 (fun k hk e => (hap x hx k hk).2 e)).keep f2 (fun k hk e => (hap x hx k hk).1 e), hvr, fun x hx k hk => ⟨(hap x hx k hk).1, fun e => ?_⟩⟩, ?_, fun k hk => ?_⟩
  · rw [World.cell?_setCell_other _ _ _ _ (by simp)]; exact k0
  · rw [World.cell?_setCell_other _ _ _ _ (by simp)]; exact k1
  · have := hr.fr f2 (fun k hk e => hvr (e ▸ hk))
    rw [rdF_append, rdF_one, List.length_append]
    exact this
  · rcases hnew k e with q | q
    · exact (hap x hx k hk).2 q
    · have := (hokx x hx).lt k hk; omega
  · exact (f1.mono (fun k _ e => .inr (.inl e))).trans (f2.mono (fun k _ e => .inl e))
  · rcases hk with e | e | ⟨x, hx, e⟩
    · exact .inl (.inl e)
    · rcases hnew k e with q | q
      · exact .inl (.inr (.inl q))
      · exact .inr (.inr q)
    · rcases hmem x hx with q | rfl
      · exact .inl (.inr (.inr ⟨x, q, e⟩))
      · exact .inr (.inl e)
end
/-- Behind a call. -/
def RNow (w : World) (r : Nat) (bud sp : Int) (rv : Value) (ds : List RD) (w' : World) (sp' : Int) (as' : List AO) : Prop :=
  ∃ rv' ds', Rh w' r bud sp' rv' ds' ∧ ds'.map (·.a) = as' ∧ Fr (Rfs r rv ds) w w' ∧ ∀ k, Rfs r rv' ds' k → Rfs r rv ds k ∨ w.heap.size ≤ k
section
variable {w w1 w' w2 : World} {r : Nat} {bud sp sp' : Int} {rv : Value} {ds : List RD} {as' : List AO}
theorem RNow.fr (N : RNow w r bud sp rv ds w' sp' as') : Fr (Rfs r rv ds) w w' := by
  obtain ⟨_, _, _, _, f, _⟩ := N
  exact f
theorem RNow.same (H : Rh w r bud sp rv ds) (f : Below w.heap.size w w') : RNow w r bud sp rv ds w' sp (ds.map (·.a)) := ⟨rv, ds, H.below f, rfl, Fr.of_below f, fun k hk => .inl hk⟩
theorem RNow.after (f : Below w.heap.size w w1) (N : RNow w1 r bud sp rv ds w' sp' as') : RNow w r bud sp rv ds w' sp' as' := by
  obtain ⟨rv', ds', h1, h2, h3, h4⟩ := N
  exact ⟨rv', ds', h1, h2, (Fr.of_below f).trans h3, fun k hk => (h4 k hk).imp id (fun q => Nat.le_trans f.size q)⟩
theorem RNow.below (N : RNow w r bud sp rv ds w1 sp' as') (f : Below w1.heap.size w1 w') : RNow w r bud sp rv ds w' sp' as' := by
  obtain ⟨rv', ds', h1, h2, h3, h4⟩ := N
  exact ⟨rv', ds', h1.below f, h2, h3.trans (Fr.of_below f), h4⟩
theorem RNow.puts (hB : Below w.heap.size w w1) (hlt : ∀ k, Rfs r rv ds k → k < w.heap.size) (N : RNow w1 r bud sp rv ds w' sp' as') {S : Nat → Prop} (hS : ∀ q, S q → w.heap.size ≤ q ∧ q < w1.heap.size) (f : Fr S w' w2) : RNow w r bud sp rv ds w2 sp' as' := by
  obtain ⟨rv', ds', h1, h2, h3, h4⟩ := N
  refine ⟨rv', ds', h1.keep f (fun k hk e => ?_), h2, ?_, fun k hk => (h4 k hk).imp id (fun q => Nat.le_trans hB.size q)⟩
  · have hs := hS k e
    rcases h4 k hk with q | q
    · have := hlt k q; omega
    · omega
  · have f1 : Fr (Rfs r rv ds) w w' := (Fr.of_below hB).trans h3
    refine ⟨f.os.trans f1.os, f.tape.trans f1.tape, f.output.trans f1.output, Nat.le_trans f1.size f.size, fun k hk hn => ?_⟩
    rw [f.block k (Nat.lt_of_lt_of_le hk f1.size) (fun e => by have := (hS k e).1; omega)]
    exact f1.block k hk hn
end
theorem rh_new (w : World) (b s : Int) (t : TypeId) : Rh (w.alloc (.cells #[.int .i64 b, .int .i64 s, .slice none 0 0] t)) w.heap.size b s (.slice none 0 0) [] := by
  have hg := heap_alloc_new w (.cells #[.int .i64 b, .int .i64 s, .slice none 0 0] t)
  refine ⟨?_, ?_, ?_, fun j => ?_, Ro.nil _ _, fun d hd => by simp at hd, by simp [Value.ownBlock], fun d hd => by simp at hd⟩
  · simp only [World.cell?, hg]; rfl
  · simp only [World.cell?, hg]; rfl
  · simp only [World.cell?, hg]; rfl
  · show (match (w.alloc (.cells #[.int .i64 b, .int .i64 s, .slice none 0 0] t)).heap[w.heap.size]? with | some (.cells c elem (lo, hi)) => decide (lo ≤ j) && decide (j < hi) | _ => false) = false
    rw [hg]
    simp
/-- Is there room? -/
def room (bud sp n : Int) : Bool := decide (0 ≤ n) && decide (sp ≤ bud) && decide (n ≤ bud - sp)
set_option maxRecDepth 100000 in
set_option maxHeartbeats 800000 in
theorem rnew_any (w : World) (b s : Int) : Calls Try.prog 8 #[.int .i64 b, .int .i64 s] w fun e w' => e = .returned (.pointer (some ⟨w.heap.size, 0, none⟩)) ∧ Rh w' w.heap.size (max b 0) (max s 0) (.slice none 0 0) [] ∧ Below w.heap.size w w' := by
  go_enter Try.func8, Try.ntmps8
  go_wp2
  all_goals go_ret
  all_goals refine ⟨by simp, ?_, (Below.refl _ _).alloc (Nat.le_refl _) _⟩
  all_goals first | rw [show max b 0 = b by omega] | rw [show max b 0 = 0 by omega]
  all_goals first | rw [show max s 0 = s by omega] | rw [show max s 0 = 0 by omega]
  all_goals exact rh_new _ _ _ _
set_option maxRecDepth 100000 in
set_option maxHeartbeats 800000 in
theorem room_any {w : World} {r : Nat} {bud sp : Int} {rv : Value} {ds : List RD} (H : Rh w r bud sp rv ds) (hb : 0 ≤ bud ∧ bud < 9223372036854775808) (hs : 0 ≤ sp ∧ sp < 9223372036854775808) (n : Int) : Calls Try.prog 69 #[.pointer (some ⟨r, 0, none⟩), .int .i64 n] w fun e w' => e = .returned (.bool (room bud sp n)) ∧ ∃ k, w' = w.drewN k := by
  have h0 := H.c0
  have h1 := H.c1
  have hl := H.rlt
  clear H
  by_cases a : 0 ≤ n
  · by_cases b : sp ≤ bud
    · by_cases c : n ≤ bud - sp
      · have e : room bud sp n = true := by simp [room, a, b, c]
        rw [e]
        clear e
        have d1 : decide (n ≥ 0) = true := decide_eq_true a
        have d2 : decide (sp ≤ bud) = true := decide_eq_true b
        have d3 : decide (n ≤ bud - sp) = true := decide_eq_true c
        go_enter Try.func69, Try.ntmps69
        go_wp2
        go_quiet (fail)
        go_wp2
        go_ret
        exact ⟨rfl, nq, rfl⟩
      · have e : room bud sp n = false := by simp [room, a, b, c]
        rw [e]
        clear e
        have d1 : decide (n ≥ 0) = true := decide_eq_true a
        have d2 : decide (sp ≤ bud) = true := decide_eq_true b
        have d3 : decide (n ≤ bud - sp) = false := decide_eq_false c
        go_enter Try.func69, Try.ntmps69
        go_wp2
        go_quiet (fail)
        go_wp2
        go_ret
        exact ⟨rfl, nq, rfl⟩
    · have e : room bud sp n = false := by simp [room, b]
      rw [e]
      clear e
      have d1 : decide (n ≥ 0) = true := decide_eq_true a
      have d2 : decide (sp ≤ bud) = false := decide_eq_false b
      go_enter Try.func69, Try.ntmps69
      go_wp2
      go_quiet (fail)
      go_wp2
      go_ret
      exact ⟨rfl, nq, rfl⟩
  · have e : room bud sp n = false := by simp [room, a]
    rw [e]
    clear e
    have d1 : decide (n ≥ 0) = false := decide_eq_false a
    go_enter Try.func69, Try.ntmps69
    go_wp2
    go_quiet (fail)
    go_wp2
    go_ret
    exact ⟨rfl, nq, rfl⟩
set_option maxRecDepth 100000 in
set_option maxHeartbeats 800000 in
theorem rspend_any {w : World} {r : Nat} {bud sp : Int} {rv : Value} {ds : List RD} (H : Rh w r bud sp rv ds) (hb : 0 ≤ bud ∧ bud < 9223372036854775808) (hs : 0 ≤ sp ∧ sp < 9223372036854775808) (n : Int) : Calls Try.prog 47 #[.pointer (some ⟨r, 0, none⟩), .int .i64 n] w fun e w' => e = .returned (.bool (room bud sp n)) ∧ RNow w r bud sp rv ds w' (if room bud sp n then sp + n else sp) (ds.map (·.a)) := by
  have HR := hide (room_any H hb hs n)
  have HH := hide H
  clear H
  cases e : room bud sp n
  · rw [e] at HR
    go_enter Try.func47, Try.ntmps47
    go_wp2_with fail
    refine (unhide HR).mono ?_
    rintro e1 w1 ⟨rfl, k, rfl⟩
    go_wp2_with fail
    go_ret
    exact ⟨rfl, by simpa using RNow.same (unhide HH) ((Fr.drewN (S := fun _ => False) k).below (Nat.le_refl _) (fun _ _ e => e))⟩
  · rw [e] at HR
    have e2 : 0 ≤ n ∧ sp ≤ bud ∧ n ≤ bud - sp := by simpa [room, and_assoc] using e
    go_enter Try.func47, Try.ntmps47
    go_wp2_with fail
    refine (unhide HR).mono ?_
    rintro e1 w1 ⟨rfl, k, rfl⟩
    have HK := hide ((unhide HH).below ((Fr.drewN (S := fun _ => False) k).below (Nat.le_refl _) (fun _ _ e => e)))
    have h1 := (unhide HK).c1
    have hl := (unhide HK).rlt
    have hf := (unhide HK).free
    go_wp2_with fail
    go_ret
    obtain ⟨g1, g2⟩ := (unhide HK).spent (sp + n)
    refine ⟨rfl, rv, ds, ?_, rfl, ?_, fun k hk => .inl hk⟩
    · simpa using g1
    · simpa using (Fr.drewN (S := Rfs r rv ds) (w := w) k).trans g2
end Go.Proofs.Ytkpngfahnpidkaa
