/-
  A profile is read: its parts.
-/
import Derived.Test.YtclcebdcdbcpjaaGreatD2
import Derived.Test.YtclcebdcdbcpjaaGreatPMk
import Derived.Test.YtclcebdcdbcpjaaGreatE4
import Derived.Lib.BufferRead
import Derived.Laws.IdiomStrings
namespace Go.Proofs.YtclcebdcdbcpjaaGreat
open Go.RowKit
set_option linter.unusedVariables false
set_option linter.unusedSimpArgs false
def spQ (q : Q4) : Sp := ⟨q.a, IntKind.u16.wrap q.b, IntKind.u16.wrap q.c, q.d⟩
set_option maxRecDepth 100000 in
theorem spot_any (w : World) (q : Q4) : Calls Tryz.prog 69 #[q4V q] w fun e w' => e = .returned (spV (spQ q)) ∧ Below w.heap.size w w' := by
  have HB := hide (bl_two w (.cells #[.int .i64 q.a, .int .i64 q.b, .int .i64 q.c, .int .i64 q.d] 75) (.cells #[.int .i64 0, .int .u16 0, .int .u16 0, .int .i64 0] 62))
  unfold q4V
  go_enter Tryz.func69, Tryz.ntmps69
  go_wp2_with fail
  refine bodyPost_ret (v := .agg #[.int .i64 q.a, .int .u16 (IntKind.u16.wrap q.b), .int .u16 (IntKind.u16.wrap q.c), .int .i64 q.d]) ?_ rfl ?_
  · rw [results_cell_one rfl]
    go_simp
  · exact ⟨rfl, bl_two w _ _⟩
theorem bl_one (w : World) (o : Obj) : Below w.heap.size w (w.alloc o) := (Below.refl _ w).alloc (Nat.le_refl _) o
/-- Spots, so many. -/
def rdL : Nat → List Sp → List Int → Except Int (List Sp × List Int)
  | 0, l, bs => .ok (l, bs)
  | n + 1, l, bs => match rdS bs with | .error e => .error e | .ok (q, t) => rdL n (l ++ [spQ q]) t
def rdF1 (bs : List Int) : Except Int (List Sp × List Int) := match unumMost 2000 bs with | .error e => .error e | .ok (n, t) => rdL n [] t
theorem rdG_ok {fl : Int} : ∀ {n : Nat} {q q' : Q4} {bs t : List Int}, BOk bs → rdG fl n q bs = .ok (q', t) → BOk t
  | 0, q, q', bs, t, h, e => by cases e; exact h
  | n + 1, q, q', bs, t, h, e => by
    unfold rdG at e
    split at e
    · cases hr : rdF (3 - n) bs with
      | error k => rw [hr] at e; cases e
      | ok p =>
        obtain ⟨x, t'⟩ := p
        rw [hr] at e
        exact rdG_ok (rdF_ok h hr) e
    · exact rdG_ok h e
theorem rdS_ok {bs t : List Int} {q : Q4} (h : BOk bs) (e : rdS bs = .ok (q, t)) : BOk t := by
  cases bs with
  | nil => cases e
  | cons b r =>
    have e2 : (if 16 ≤ b then .error 4 else rdG b 4 q4Z r) = .ok (q, t) := e
    by_cases h16 : 16 ≤ b
    · rw [if_pos h16] at e2; cases e2
    · rw [if_neg h16] at e2
      exact rdG_ok (fun x hx => h x (List.mem_cons_of_mem _ hx)) e2
/-- While spots are read. -/
structure LQ (w : World) (r rb : Nat) (lv : Value) (l : List Sp) (bs : List Int) (wr : World) : Prop where
  fr : Fr (fun k => k = r) w wr
  ow : Ro wr 4 lv l.length (flt enS l)
  ob : ∀ k, lv.ownBlock = some k → w.heap.size ≤ k
  rd : ∃ v, Rdr wr r rb v bs 0
  ok : BOk bs
  hr : r < w.heap.size
  hb : rb < w.heap.size
section
variable {w wr w' : World} {r rb : Nat} {lv : Value} {l : List Sp} {bs t : List Int}
theorem LQ.read (h : LQ w r rb lv l bs wr) (f : RFr r wr w') {v : Value} (hv : Rdr w' r rb v t 0) (hk : BOk t) : LQ w r rb lv l t w' :=
  ⟨h.fr.trans f, h.ow.fr f (fun k hk e => by have := h.ob k hk; have := h.hr; have e' : k = r := e; omega), h.ob, ⟨v, hv⟩, hk, h.hr, h.hb⟩
theorem LQ.below (h : LQ w r rb lv l bs wr) (f : Below wr.heap.size wr w') : LQ w r rb lv l bs w' := by
  obtain ⟨v, hv⟩ := h.rd
  exact ⟨h.fr.comp (Fr.of_below (S := fun _ => False) f) (fun _ _ e => e.elim), h.ow.fr (Fr.of_below (S := fun _ => False) f) (fun _ _ e => e), h.ob, ⟨v, hv.keep (Fr.of_below (S := fun _ => False) f) (by simp) (by simp)⟩, h.ok, h.hr, h.hb⟩
theorem LQ.push (h : LQ w r rb lv l bs wr) {w1 : World} {v' : Value} {s : Sp} (hb : Below wr.heap.size wr w1) {m : Nat} (hr : Ro w' 4 v' m (flt enS l ++ enS s)) (hm : m = l.length + 1) (hg : w1.grownBy w' lv.ownBlock) (hat : v'.ownBlock = lv.ownBlock ∨ v'.ownBlock = some w1.heap.size) : LQ w r rb v' (l ++ [s]) bs w' := by
  subst hm
  have f1 : Fr (fun k => lv.ownBlock = some k) wr w' := ((Fr.of_below (S := fun k => lv.ownBlock = some k) hb)).trans ((Fr.refl _ w1).grown hg (fun k e => .inr e))
  obtain ⟨v, hv⟩ := h.rd
  have h1 := h.hr
  have h2 := h.hb
  have h3 := h.fr.size
  have h4 := hb.size
  refine ⟨h.fr.comp f1 (fun i hi e => by have := h.ob i e; omega), by rw [List.length_append, flt_append, flt_one]; exact hr, fun k hk => ?_, ⟨v, hv.keep f1 (fun e => by have := h.ob r e; omega) (fun b off len cap e q => by have := hv.ap b off len cap e; have := h.ob b q; omega)⟩, h.ok, h.hr, h.hb⟩
  rcases hat with q | q
  · rw [q] at hk; exact h.ob k hk
  · rw [q] at hk; cases hk; omega
end
def LsP (r rb : Nat) (w : World) (o : Except Int (List Sp × List Int)) (e : Ending) (w' : World) : Prop := RFr r w w' ∧
  match o with
  | .error k => k ≠ 0 ∧ e = .returned (.tuple #[.slice none 0 0, .int .i64 k])
  | .ok (l, t) => ∃ lv, e = .returned (.tuple #[lv, .int .i64 0]) ∧ Ro w' 4 lv l.length (flt enS l) ∧ (∀ k, lv.ownBlock = some k → w.heap.size ≤ k) ∧ BOk t ∧ ∃ v2, Rdr w' r rb v2 t 0
theorem unumMost_ok {most : Int} {bs t : List Int} {n : Nat} (h : BOk bs) (e : unumMost most bs = .ok (n, t)) : BOk t ∧ ((n : Int) ≤ max most 0) := by
  unfold unumMost at e
  cases hu : unum 0 0 bs with
  | error k => rw [hu] at e; cases e
  | ok p =>
    obtain ⟨x, t'⟩ := p
    rw [hu] at e
    dsimp only at e
    split at e
    · cases e
    · cases e
      exact ⟨(unum_lt 0 0 bs _ _ (by omega) (by omega) h hu).2, by omega⟩
theorem unumMost_err {most : Int} {bs : List Int} {k : Int} (e : unumMost most bs = .error k) : k ≠ 0 := by
  unfold unumMost at e
  cases hu : unum 0 0 bs with
  | error k' => rw [hu] at e; cases e; exact unum_err 0 0 bs _ hu
  | ok p =>
    obtain ⟨x, t'⟩ := p
    rw [hu] at e
    dsimp only at e
    split at e
    · cases e; decide
    · cases e
set_option maxRecDepth 100000 in
set_option maxHeartbeats 6400000 in
theorem readSpots_any (r : Nat) {rb : Nat} (v : Value) (bs : List Int) (w : World) (h : Rdr w r rb v bs 0) (hB : BOk bs) (hrb : rb < w.heap.size) :
    Calls Tryz.prog 41 #[.pointer (some ⟨r, 0, none⟩)] w (LsP r rb w (rdF1 bs)) := by
  have hr := h.lt
  have HCO := hide (rCount_any r v bs 0 2000 w h hB (by omega))
  have HOK := hide hB
  clear h hB
  cases hu : unumMost 2000 bs with
  | error k0 =>
    have hk0 := unumMost_err hu
    have HO : Hid (rdF1 bs = .error k0) := by unfold Hid rdF1; rw [hu]
    rw [hu] at HCO
    simp only [gNum, rres, ↓reduceIte] at HCO
    go_enter Tryz.func41, Tryz.ntmps41
    go_wp2_with fail
    refine (unhide HCO).mono ?_
    rintro e w1 ⟨rfl, v2, hv2, f2⟩
    have HER := hide (rErr_any r v2 _ _ w1 hv2)
    have HF2 := hide f2
    clear hv2 f2 HCO
    go_wp2_with fail
    go_loopg [4, 9] 0 (fun gg t4 t9 wr => t4 = .slice none 0 0 ∧ t9 = .int .i64 0 ∧ wr = w1 ∧ gg = 0)
    case atStart => exact ⟨rfl, rfl, rfl, rfl⟩
    case round =>
      obtain ⟨rfl, rfl, rfl, rfl⟩ := hrel
      go_wp2_with fail
      refine (unhide HER).mono ?_
      rintro e w2 ⟨rfl, e2⟩
      subst e2
      go_wp2_with fail
      go_ret2
      show LsP r rb w (rdF1 bs) _ _
      rw [unhide HO]
      exact ⟨unhide HF2, hk0, rfl⟩
  | ok p =>
    obtain ⟨N, t0⟩ := p
    have HO : Hid (rdF1 bs = rdL N [] t0) := by unfold Hid rdF1; rw [hu]
    obtain ⟨hb0, hN⟩ := unumMost_ok (unhide HOK) hu
    have hN' : N ≤ 2000 := by omega
    rw [hu] at HCO
    simp only [gNum, rres, ↓reduceIte] at HCO
    go_enter Tryz.func41, Tryz.ntmps41
    go_wp2_with fail
    refine (unhide HCO).mono ?_
    rintro e w1 ⟨rfl, v2, hv2, f2⟩
    have HX : Hid (LQ w r rb (.slice none 0 0) [] t0 w1) := ⟨f2, by simpa [flt] using Ro.nil _ 4, (fun k e => by cases e), ⟨v2, hv2⟩, hb0, hr, hrb⟩
    clear hv2 f2 HCO
    go_wp2_with fail
    go_loopg [4, 9] N (fun gg t4 t9 wr => ∃ (i : Nat) (lv : Value) (l : List Sp) (bq : List Int), Hid (i + gg = N) ∧ t4 = lv ∧ t9 = .int .i64 (i : Int) ∧ Hid (l.length = i) ∧ Hid (LQ w r rb lv l bq wr) ∧ Hid (rdL gg l bq = rdL N [] t0))
    case atStart => exact ⟨0, _, _, _, by unfold Hid; omega, rfl, rfl, hide rfl, HX, hide rfl⟩
    case round =>
      clear HX
      obtain ⟨i, lv, l, bq, hi, hlv, rfl, hll, hL, hQ⟩ := hrel
      subst hlv
      obtain ⟨v3, hv3⟩ := (unhide hL).rd
      by_cases hlt : i < N
      · have i0 : (0 : Int) ≤ (i : Int) := by omega
        have i1 : (i : Int) < (N : Int) := by omega
        have hwz := (unhide hL).fr.size
        have HC := hide (readSpot_any r v3 bq wr hv3 (unhide hL).ok (by omega))
        obtain ⟨m, hm⟩ : ∃ m, gk = m + 1 := ⟨gk - 1, by have := unhide hi; omega⟩
        have HR : Hid (rdL N [] t0 = match rdS bq with | .error e => .error e | .ok (q, t) => rdL m (l ++ [spQ q]) t) := by rw [← unhide hQ, hm]; rfl
        clear hv3
        go_wp2_with fail
        refine (unhide HC).mono ?_
        rintro e w2 ⟨hf2, hm2⟩
        cases hs : rdS bq with
        | error k0 =>
          rw [hs] at hm2 HR
          obtain ⟨hk0, rfl⟩ := hm2
          have dk : (k0 != 0) = true := by simpa using hk0
          have HR2 := unhide HR
          dsimp only at HR2
          have HF2 := hide ((unhide hL).fr.trans hf2)
          unfold q4V q4Z
          dsimp only
          clear HC
          go_wp2_with fail
          go_ret2
          show LsP r rb w (rdF1 bs) _ _
          rw [unhide HO, HR2]
          refine ⟨?_, hk0, rfl⟩
          exact (unhide HF2).alloc _
        | ok p =>
          obtain ⟨q, t⟩ := p
          rw [hs] at hm2 HR
          obtain ⟨rfl, v4, hv4⟩ := hm2
          have HR2 := unhide HR
          dsimp only at HR2
          have hbt : BOk t := rdS_ok (unhide hL).ok hs
          have hL2 := ((unhide hL).read hf2 hv4 hbt).below (bl_one w2 (.cells #[.int .i64 q.a, .int .i64 q.b, .int .i64 q.c, .int .i64 q.d] 75))
          have HL2 := hide hL2
          have HCS := hide (spot_any (w2.alloc (.cells #[.int .i64 q.a, .int .i64 q.b, .int .i64 q.c, .int .i64 q.d] 75)) q)
          unfold q4V at HCS ⊢
          clear HC hv4 hL2
          go_wp2_with fail
          refine (unhide HCS).mono ?_
          rintro e w3 ⟨rfl, b3⟩
          have HL3 := hide ((unhide HL2).below b3)
          have HROW := hide (unhide HL3).ow
          have HLB : Hid (l.length ≤ 5864062014700) := by rw [unhide hll]; unfold Hid; omega
          unfold spV
          clear b3 HL2 HCS
          go_wp2_with (first | (at_builtin; refine appS rfl _ _ rfl _ l rfl ((unhide HROW).keep (fun g hg => Below.heap_alloc _ _ _ ((unhide HROW).lt g hg))) ⟨w3.heap.size, 0, none⟩ 1 (spQ q) rfl (new_cells _ _ _) (unhide HLB) ?_))
          intro v' w' hr' hg hat
          have HL4 := hide ((unhide HL3).push (bl_one w3 _) hr' (by rfl) hg (by simpa using hat))
          have HLL : Hid ((l ++ [spQ q]).length = i + 1) := by rw [List.length_append, unhide hll]; rfl
          clear hr' hg hat HROW HLB HL3
          go_wp2_with fail
          go_roundg m
          case measure => omega
          case rel => exact ⟨i + 1, v', _, t, by have := unhide hi; unfold Hid; omega, rfl, by go_num, HLL, HL4, HR2.symm⟩
      · have hiN : i = N := by have := unhide hi; omega
        have hg0 : gk = 0 := by have := unhide hi; omega
        subst hiN
        have hOq : rdL i [] t0 = .ok (l, bq) := by have h := unhide hQ; rw [hg0] at h; exact h.symm
        have HER := hide (rErr_any r v3 bq 0 wr hv3)
        go_wp2_with fail
        refine (unhide HER).mono ?_
        rintro e w2 ⟨rfl, e2⟩
        subst e2
        go_wp2_with fail
        go_ret2
        show LsP r rb w (rdF1 bs) _ _
        rw [unhide HO, hOq]
        exact ⟨(unhide hL).fr, _, rfl, (unhide hL).ow, (unhide hL).ob, (unhide hL).ok, v3, hv3⟩

set_option linter.unusedVariables false
set_option linter.unusedSimpArgs false
def toStr (bs : List Int) : ByteArray := ⟨(bs.map fun b => UInt8.ofNat b.toNat).toArray⟩
theorem str_conv (w : World) (v : Value) (bs : List Int) (h : Rd w v bs) (hB : BOk bs) : (convert 22 9 v).run Tryz.prog w = .ok (.string (toStr bs)) w := by
  rcases h with ⟨rfl, rfl⟩ | ⟨b, off, cap, rfl, h1, h2, h3, h4⟩
  · exact Lib.run_convert_nil_bytes w 22 9 5 0 Tryz.underlying22 Tryz.underlying5 Tryz.underlying9
  · have h := run_convert_bytes_back (P := Tryz.prog) w 22 9 5 ⟨b, off, none⟩ cap (bs.map fun b => UInt8.ofNat b.toNat) Tryz.underlying22 Tryz.underlying5 Tryz.underlying9 (by
      intro j hj
      rw [List.length_map] at hj
      rw [addr_add, h4 j hj]
      have hb := hB bs[j] (List.getElem_mem _)
      rw [List.getElem_map, List.getD_eq_getElem?_getD, List.getElem?_eq_getElem hj, Option.getD_some, UInt8.toNat_ofNat']
      congr 2
      omega)
    rw [List.length_map] at h
    exact h
def sgnS : ByteArray := ⟨#[80, 84, 70, 1]⟩
theorem toStr_sgn : toStr sgn4 = sgnS := rfl
theorem toStr_inj : ∀ {a b : List Int}, BOk a → BOk b → toStr a = toStr b → a = b := by
  intro a b ha hb h
  have h1 : (a.map fun b => UInt8.ofNat b.toNat) = (b.map fun b => UInt8.ofNat b.toNat) := by
    have := congrArg ByteArray.data h
    simpa [toStr] using this
  clear h
  induction a generalizing b with
  | nil => cases b with
    | nil => rfl
    | cons y q => simp at h1
  | cons x r ih =>
    cases b with
    | nil => simp at h1
    | cons y q =>
      simp only [List.map_cons, List.cons.injEq] at h1
      have e := ih (fun z hz => ha z (List.mem_cons_of_mem _ hz)) (fun z hz => hb z (List.mem_cons_of_mem _ hz)) h1.2
      have p := ha x (by simp)
      have q' := hb y (by simp)
      have h2 := congrArg UInt8.toNat h1.1
      rw [UInt8.toNat_ofNat', UInt8.toNat_ofNat'] at h2
      have : x = y := by omega
      rw [this, e]
theorem nstr_eq (w : World) : (binOp .neq 9 (.string sgnS) (.string { data := #[80, 84, 70, 1] })).run Tryz.prog w = .ok (.bool false) w := by kernel_rfl
theorem nstr_ne {s : ByteArray} (h : ¬ s = sgnS) (w : World) : (binOp .neq 9 (.string s) (.string { data := #[80, 84, 70, 1] })).run Tryz.prog w = .ok (.bool true) w := by
  have h2 : ¬ s.toList = [80, 84, 70, 1] := fun e => h (by
    rw [ByteArray.toList_eq] at e
    exact Go.WideShapes.bytes_inj (e : s.data.toList = sgnS.data.toList))
  go_simp
section
variable {T U : Type} {en : T → List Value} {sz : Nat} {P : World → U → T → Prop} {bl : T → Nat → Prop} {Z : Nat → Prop}
/-- One thing more, where something else turned on the way. -/
theorem OW.pushF {S : Nat → Prop} {wr w1 w2 : World} {v v' : Value} {us : List U} {xs : List T} {u : U} {x : T} {m : Nat} (hP : Stays P bl) (h : OW en sz P bl Z wr v us xs) (f1 : Fr S wr w1) (hS : ∀ k, k < wr.heap.size → Z k → ¬ S k) (hx : P w1 u x) (hn : ∀ k, bl x k → wr.heap.size ≤ k ∧ k < w1.heap.size) (hZ : ∀ k, wr.heap.size ≤ k → Z k)
    (hr : Ro w2 sz v' m (flt en xs ++ en x)) (hm : m = us.length + 1) (hg : w1.grownBy w2 v.ownBlock) (hat : v'.ownBlock = v.ownBlock ∨ v'.ownBlock = some w1.heap.size) :
    OW en sz P bl Z w2 v' (us ++ [u]) (xs ++ [x]) ∧ Fr (fun k => S k ∨ v.ownBlock = some k) wr w2 := by
  subst hm
  have hsz := f1.size
  have hln := h.len
  have f2 : Fr (fun k => v.ownBlock = some k) w1 w2 := (Fr.refl _ w1).grown hg (fun k e => .inr e)
  have f3 : Fr (fun k => S k ∨ v.ownBlock = some k) wr w2 := (f1.mono (fun _ _ e => .inl e)).comp f2 (fun _ _ e => .inr e)
  have hvn : ∀ k, v.ownBlock = some k → k < wr.heap.size := h.row.lt
  have hnew : ∀ k, v'.ownBlock = some k → v.ownBlock = some k ∨ w1.heap.size ≤ k := fun k hk => by
    rcases hat with q | q
    · exact .inl (q ▸ hk)
    · rw [q] at hk; cases hk; exact .inr (Nat.le_refl _)
  refine ⟨⟨by simp [h.len], by rw [List.length_append, flt_append, flt_one]; exact hr, fun k hk => ?_, fun i g y hf hy => ?_, fun i y k hy hk => ?_, fun i j y z k hij hy hz hk => ?_⟩, f3⟩
  · rcases hnew k hk with q | q
    · exact h.rb k q
    · exact hZ k (by omega)
  · by_cases q : i < us.length
    · rw [List.getElem?_append_left q] at hf
      rw [List.getElem?_append_left (by omega)] at hy
      refine hP _ wr w2 g y (h.el i g y hf hy) f3 (fun k hk e => ?_)
      have hb := h.eb i y k hy hk
      rcases e with e | e
      · exact hS k hb.2.1 hb.1 e
      · exact hb.2.2 e
    · have hi : i = us.length := by have := (List.getElem?_eq_some_iff.1 hf).1; simp at this; omega
      subst hi
      rw [List.getElem?_append_right (Nat.le_refl _), Nat.sub_self] at hf
      rw [List.getElem?_append_right (by omega), hln, Nat.sub_self] at hy
      cases hf; cases hy
      exact hP _ w1 w2 _ _ hx f2 (fun k hk e => by have := (hn k hk).1; have := hvn k e; omega)
  · by_cases q : i < xs.length
    · rw [List.getElem?_append_left q] at hy
      obtain ⟨z1, z2, z3⟩ := h.eb i y k hy hk
      refine ⟨z1, Nat.lt_of_lt_of_le z2 f3.size, fun e => ?_⟩
      rcases hnew k e with r | r
      · exact z3 r
      · omega
    · have hi : i = xs.length := by have := (List.getElem?_eq_some_iff.1 hy).1; simp at this; omega
      subst hi
      rw [List.getElem?_append_right (Nat.le_refl _), Nat.sub_self] at hy
      cases hy
      obtain ⟨n1, n2⟩ := hn k hk
      refine ⟨hZ k n1, Nat.lt_of_lt_of_le n2 f2.size, fun e => ?_⟩
      rcases hnew k e with r | r
      · have := hvn k r; omega
      · omega
  · have key : ∀ (i : Nat) (y : T), (xs ++ [x])[i]? = some y → (i < xs.length ∧ xs[i]? = some y) ∨ (i = xs.length ∧ y = x) := fun i y hy => by
      by_cases q : i < xs.length
      · rw [List.getElem?_append_left q] at hy; exact .inl ⟨q, hy⟩
      · have hi : i = xs.length := by have := (List.getElem?_eq_some_iff.1 hy).1; simp at this; omega
        subst hi
        rw [List.getElem?_append_right (Nat.le_refl _), Nat.sub_self] at hy
        cases hy
        exact .inr ⟨rfl, rfl⟩
    rcases key i y hy with ⟨q1, q2⟩ | ⟨q1, rfl⟩ <;> rcases key j z hz with ⟨r1, r2⟩ | ⟨r1, rfl⟩
    · exact h.ap i j y z k hij q2 r2 hk
    · intro e
      have := (h.eb i y k q2 hk).2.1
      have := (hn k e).1
      omega
    · intro e
      have := (h.eb j z k r2 e).2.1
      have := (hn k hk).1
      omega
    · omega
end
/-- A list of spots of one's own. -/
def RR (w : World) (l : List Sp) (u : Value) : Prop := Ro w 4 u l.length (flt enS l)
theorem staysR : Stays RR blV := fun S w w' l u h f hk => h.fr f hk
abbrev PO := OW enV 1 RR blV
theorem OW.ppf {Z : Nat → Prop} {w : World} {v : Value} {f : List (List Sp)} {vs : List Value} (h : PO Z w v f vs) : PfV w v f :=
  ⟨vs, h.len, by rw [h.len]; exact Rx.of_ro h.row, fun i l u hl hu => Rx.of_ro (h.el i l u hl hu)⟩
def rdM : Nat → List (List Sp) → List Int → Except Int (List (List Sp) × List Int)
  | 0, f, bs => .ok (f, bs)
  | n + 1, f, bs => match rdF1 bs with | .error e => .error e | .ok (l, t) => rdM n (f ++ [l]) t
def decT (bs : List Int) : Except Int (List (List Sp)) :=
  match unumMost 128 bs with
  | .error k => .error k
  | .ok (n, t) => match rdM n [] t with
    | .error k => .error k
    | .ok (f, t') => if t'.length = 0 then .ok f else .error 3
/-- The profile that bytes are. -/
def decP (bs : List Int) : Except Int (List (List Sp)) :=
  if bs.length < 4 then .error 2 else if bs.take 4 = sgn4 then decT (bs.drop 4) else .error 4
/-- While functions are read. -/
structure MQ (w : World) (r rb B : Nat) (gv : Value) (f : List (List Sp)) (vs : List Value) (bs : List Int) (wr : World) : Prop where
  fr : Fr (fun k => k = r) w wr
  b2 : wr.heap[w.heap.size]? = some (.cells #[.slice none 0 0] 25)
  b5 : wr.heap[B]? = some (.cells #[gv] 25)
  ow : PO (fun k => w.heap.size < k ∧ k ≠ B) wr gv f vs
  rd : ∃ v, Rdr wr r rb v bs 0
  ok : BOk bs
  hr : r < w.heap.size
  hb : rb < w.heap.size
  hB : w.heap.size < B
section
variable {w wr w1 w2 : World} {r rb B : Nat} {gv lv v' : Value} {f : List (List Sp)} {vs : List Value} {l : List Sp} {bs t : List Int}
theorem MQ.sz (h : MQ w r rb B gv f vs bs wr) : w.heap.size < wr.heap.size ∧ B < wr.heap.size := ⟨(blk_cells h.b2).2.2, (blk_cells h.b5).2.2⟩
/-- A function's spots are read, and put behind the others. -/
theorem MQ.push (h : MQ w r rb B gv f vs bs wr) (f1 : RFr r wr w1) {v : Value} (hv : Rdr w1 r rb v t 0) (hk : BOk t) (hl : Ro w1 4 lv l.length (flt enS l)) (hn : ∀ k, lv.ownBlock = some k → wr.heap.size ≤ k) {X : Obj} {m : Nat}
    (hr : Ro w2 1 v' m (flt enV vs ++ enV lv)) (hm : m = f.length + 1) (hg : (w1.alloc X).grownBy w2 gv.ownBlock) (hat : v'.ownBlock = gv.ownBlock ∨ v'.ownBlock = some (w1.alloc X).heap.size) :
    MQ w r rb B v' (f ++ [l]) (vs ++ [lv]) t (w2.setCell ⟨B, 0, none⟩ v') := by
  obtain ⟨s1, s2⟩ := h.sz
  have h1 := h.hr
  have h2 := h.hb
  have h3 := h.hB
  have hs := f1.size
  have fa : Fr (fun k => k = r) wr (w1.alloc X) := Fr.alloc f1 X
  obtain ⟨q1, q2⟩ := h.ow.pushF (S := fun k => k = r) staysR fa (fun k hk hz e => by have e' : k = r := e; omega) (u := l) (x := lv) (hl.keep (fun g hg => Below.heap_alloc _ _ _ (hl.lt g hg))) (fun k hk => ⟨hn k hk, by have := hl.lt k hk; simp; omega⟩) (fun k hk => by constructor <;> omega) hr hm hg hat
  have fz : Fr (fun k => k = B) w2 (w2.setCell ⟨B, 0, none⟩ v') := Fr.setCell (S := fun k => k = B) (Fr.refl _ w2) ⟨B, 0, none⟩ (.inr rfl) v'
  have hgb : ∀ k, gv.ownBlock = some k → w.heap.size < k ∧ k ≠ B := h.ow.rb
  have e2 : w2.heap[w.heap.size]? = wr.heap[w.heap.size]? := q2.block _ s1 (fun e => by rcases e with e | e; omega; have := hgb _ e; omega)
  have e5 : w2.heap[B]? = wr.heap[B]? := q2.block _ s2 (fun e => by rcases e with e | e; omega; have := hgb _ e; omega)
  have hq := q2.size
  have fg : Fr (fun k => gv.ownBlock = some k) (w1.alloc X) w2 := (Fr.refl _ _).grown hg (fun k e => .inr e)
  have hv1 : Rdr w2 r rb v t 0 := (hv.alloc X).keep fg (fun e => by have := hgb _ e; omega) (fun b off len cap e q => by have := hv.ap b off len cap e; have := hgb _ q; omega)
  refine ⟨(h.fr.comp q2 (fun i hi e => ?_)).comp fz (fun i hi e => by omega), (fz.block _ (by omega) (by omega)).trans (e2.trans h.b2), ?_, q1.frZ staysR fz (fun k _ hz e => hz.2 e), ⟨v, hv1.keep fz (by omega) (fun b off len cap e => ?_)⟩, hk, h.hr, h.hb, h.hB⟩
  · rcases e with e | e
    · exact e
    · have := hgb _ e; omega
  · rw [setCell_block (e5.trans h.b5) v']; rfl
  · have := hv.ap b off len cap e
    show ¬ b = B
    omega
end
/-- What reading a profile leaves. -/
def PrP (r : Nat) (w : World) (o : Except Int (List (List Sp))) (e : Ending) (w' : World) : Prop := RFr r w w' ∧
  match o with
  | .error k => k ≠ 0 ∧ ∃ a n c, e = .returned (.tuple #[.agg #[.slice a n c], .int .i64 k])
  | .ok f => ∃ v vs, e = .returned (.tuple #[.agg #[v], .int .i64 0]) ∧ PO (fun k => w.heap.size < k) w' v f vs
theorem rdF1_err {bs : List Int} {k : Int} (e : rdF1 bs = .error k) : True := trivial
end Go.Proofs.YtclcebdcdbcpjaaGreat
