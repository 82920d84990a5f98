/-
  One step of HeapPays: what a call costs, and what it does.
-/
import Derived.Test.YtkpngfahnpidkaaPCost
namespace Go.Proofs.Ytkpngfahnpidkaa
open Go.RowKit
set_option linter.unusedVariables false

theorem Now.puts {w w1 w' w2 : World} {h : Nat} {bud sp sp' : Int} {ov : Value} {os os' : List OD} (hB : Below w.heap.size w w1) (hlt : ∀ k, Fts h ov os k → k < w.heap.size) (N : Now w1 h bud sp ov os w' sp' os') {S : Nat → Prop} (hS : ∀ q, S q → w.heap.size ≤ q ∧ q < w1.heap.size) (f : Fr S w' w2) :
    Now w h bud sp ov os w2 sp' os' := by
  obtain ⟨ov', h1, h2, h3⟩ := N
  refine ⟨ov', h1.keep f (fun k hk e => ?_), ?_, fun k hk => (h3 k hk).imp id (fun q => Nat.le_trans hB.size q)⟩
  · have hs := hS k e
    rcases h3 k hk with q | q
    · have := hlt k q; omega
    · omega
  · have f1 : Fr (Fts h ov os) w w' := (Fr.of_below hB).trans h2
    refine ⟨f.os.trans f1.os, f.tape.trans f1.tape, f.output.trans f1.output, Nat.le_trans f1.size f.size, fun k hk hn => ?_⟩
    rw [f.block k (Nat.lt_of_lt_of_le hk f1.size) (fun e => by have := (hS k e).1; omega)]
    exact f1.block k hk hn
/-- Behind a call: so much is spent, so many objects there are. -/
def NowL (w : World) (h : Nat) (bud sp : Int) (ov : Value) (os : List OD) (w' : World) (sp' : Int) (L : Nat) : Prop := ∃ os', Now w h bud sp ov os w' sp' os' ∧ os'.length = L
theorem NowL.fr {w w' : World} {h : Nat} {bud sp sp' : Int} {ov : Value} {os : List OD} {L : Nat} (N : NowL w h bud sp ov os w' sp' L) : Fr (Fts h ov os) w w' := by
  obtain ⟨os', ⟨ov', _, f, _⟩, _⟩ := N
  exact f
theorem NowL.puts {w w1 w' w2 : World} {h : Nat} {bud sp sp' : Int} {ov : Value} {os : List OD} {L : Nat} (hB : Below w.heap.size w w1) (hlt : ∀ k, Fts h ov os k → k < w.heap.size) (N : NowL w1 h bud sp ov os w' sp' L) {S : Nat → Prop} (hS : ∀ q, S q → w.heap.size ≤ q ∧ q < w1.heap.size) (f : Fr S w' w2) : NowL w h bud sp ov os w2 sp' L := by
  obtain ⟨os', N, e⟩ := N
  exact ⟨os', N.puts hB hlt hS f, e⟩
theorem NowL.same {w w' : World} {h : Nat} {bud sp : Int} {ov : Value} {os : List OD} (H : Hp w h bud sp ov os) (f : Below w.heap.size w w') : NowL w h bud sp ov os w' sp os.length := ⟨os, Now.same H f, rfl⟩
/-- What a step does. -/
structure Stp (w : World) (h : Nat) (bud sp : Int) (ov : Value) (os : List OD) (c : Int) (p : OpD) (n : Int) (may : Bool) (k nn : Int) (ok : Bool) (sp' : Int) (L : Nat) : Prop where
  cost : ∀ w1, Below w.heap.size w w1 → Calls Try.prog 23 #[.int .i64 c, .agg (opC p)] w1 fun e w' => e = .returned (.tuple #[.int .i64 n, .bool may]) ∧ Below w1.heap.size w1 w'
  ask : ∀ w1, Below w.heap.size w w1 → Calls Try.prog 24 #[.pointer (some ⟨h, 0, none⟩), .int .i64 c, .agg (opC p)] w1 fun e w' => e = .returned (.tuple #[.agg (saidC k nn ok), .bool true]) ∧ NowL w1 h bud sp ov os w' sp' L
  okay : ok = (may && decide (n ≤ bud - sp))
  yes : ok = true → sp' = sp + n ∧ 0 ≤ n ∧ ((c = 0 ∧ k = 0 ∧ nn = 0 ∧ L = os.length) ∨ (c ≠ 0 ∧ k = 6 + c - 3 ∧ nn = (os.length : Int) ∧ L = os.length + 1 ∧ 2 ≤ n))
  no : ok = false → sp' = sp ∧ k = 0 ∧ nn = 0 ∧ L = os.length
section
variable {W w : World} {h : Nat} {bud sp : Int} {ov : Value} {os : List OD} {p : OpD} {l : List (Int × Int)}
theorem stp_arr_ok (hRt : RtV W p.lv l) (hN : l.length ≤ 8796093021952) (hWB : Below W.heap.size W w) (H : Hp w h bud sp ov os) (hb : 0 ≤ bud ∧ bud < 4611686018427387904) (hs : 0 ≤ sp ∧ sp ≤ bud) (hfar : ∀ q, Fts h ov os q → W.heap.size ≤ q) (hL : os.length ≤ 3000000000000) (h1 : l.length ≤ 4096) (hr : 2 + (l.length : Int) ≤ bud - sp) : ∃ n may k nn ok sp' L, Stp w h bud sp ov os 3 p n may k nn ok sp' L := by
  obtain ⟨la, lc, elv, hrest⟩ := hRt
  have hRt : RtV W p.lv l := ⟨la, lc, elv, hrest⟩
  have hlt := H.lt
  refine ⟨2 + (l.length : Int), true, 6, (os.length : Int), true, sp + (2 + (l.length : Int)), os.length + 1, fun w1 b1 => cost_arr_yes elv hN h1, fun w1 b1 => ?_, (by simp [hr]), fun _ => ⟨rfl, by omega, .inr ⟨by omega, by omega, rfl, rfl, by omega⟩⟩, (fun e => by cases e)⟩
  have hW1 := hWB.trans (b1.mono hWB.size)
  have H1 := H.below b1
  have hlt1 : ∀ q, Fts h ov os q → q < w1.heap.size := fun q e => Nat.lt_of_lt_of_le (hlt q e) b1.size
  refine ask_array p hRt hW1 hN (P := fun w2 w' => NowL w2 h bud sp ov os w' (sp + (2 + (l.length : Int))) (os.length + 1)) (F := Fts h ov os) (fun q e => ⟨hfar q e, Nat.lt_of_lt_of_le (hlt q e) b1.size⟩) (Nat.lt_of_lt_of_le H.hlt b1.size) (fun w2 g off cap b2 hro => ?_) (fun w2 w' N => N.fr) (fun w2 w3 w' b2 N f => N.puts b2 hlt1 (fun _ e => e) f)
  have H2 := H1.below b2
  refine (array_ok H2 ⟨hb.1, by omega⟩ ⟨hs.1, by omega⟩ hro h1 hr (by omega)).mono fun e w' hh => ?_
  obtain ⟨rfl, o, _, _, _, _, _, N⟩ := hh
  exact ⟨rfl, _, N, by simp⟩
theorem stp_arr_no (hRt : RtV W p.lv l) (hN : l.length ≤ 8796093021952) (hWB : Below W.heap.size W w) (H : Hp w h bud sp ov os) (hb : 0 ≤ bud ∧ bud < 4611686018427387904) (hs : 0 ≤ sp ∧ sp ≤ bud) (hfar : ∀ q, Fts h ov os q → W.heap.size ≤ q) (hL : os.length ≤ 3000000000000) (h1 : l.length ≤ 4096) (hr : bud - sp < 2 + (l.length : Int)) : ∃ n may k nn ok sp' L, Stp w h bud sp ov os 3 p n may k nn ok sp' L := by
  obtain ⟨la, lc, elv, hrest⟩ := hRt
  have hRt : RtV W p.lv l := ⟨la, lc, elv, hrest⟩
  have hlt := H.lt
  refine ⟨2 + (l.length : Int), true, 0, 0, false, sp, os.length, fun w1 b1 => cost_arr_yes elv hN h1, fun w1 b1 => ?_, (by simp; omega), (fun e => by cases e), fun _ => ⟨rfl, rfl, rfl, rfl⟩⟩
  have hW1 := hWB.trans (b1.mono hWB.size)
  have H1 := H.below b1
  have hlt1 : ∀ q, Fts h ov os q → q < w1.heap.size := fun q e => Nat.lt_of_lt_of_le (hlt q e) b1.size
  refine ask_array p hRt hW1 hN (P := fun w2 w' => NowL w2 h bud sp ov os w' (sp) (os.length)) (F := Fts h ov os) (fun q e => ⟨hfar q e, Nat.lt_of_lt_of_le (hlt q e) b1.size⟩) (Nat.lt_of_lt_of_le H.hlt b1.size) (fun w2 g off cap b2 hro => ?_) (fun w2 w' N => N.fr) (fun w2 w3 w' b2 N f => N.puts b2 hlt1 (fun _ e => e) f)
  have H2 := H1.below b2
  refine (array_no H2 ⟨hb.1, by omega⟩ ⟨hs.1, by omega⟩ hro h1 hr).mono fun e w' hh => ?_
  obtain ⟨rfl, b3⟩ := hh
  exact ⟨rfl, NowL.same H2 b3⟩
theorem stp_arr_bad (hRt : RtV W p.lv l) (hN : l.length ≤ 8796093021952) (hWB : Below W.heap.size W w) (H : Hp w h bud sp ov os) (hb : 0 ≤ bud ∧ bud < 4611686018427387904) (hs : 0 ≤ sp ∧ sp ≤ bud) (hfar : ∀ q, Fts h ov os q → W.heap.size ≤ q) (hL : os.length ≤ 3000000000000) (h1 : 4096 < l.length) : ∃ n may k nn ok sp' L, Stp w h bud sp ov os 3 p n may k nn ok sp' L := by
  obtain ⟨la, lc, elv, hrest⟩ := hRt
  have hRt : RtV W p.lv l := ⟨la, lc, elv, hrest⟩
  have hlt := H.lt
  refine ⟨2 + (l.length : Int), false, 0, 0, false, sp, os.length, fun w1 b1 => cost_arr_no elv hN h1, fun w1 b1 => ?_, rfl, (fun e => by cases e), fun _ => ⟨rfl, rfl, rfl, rfl⟩⟩
  have hW1 := hWB.trans (b1.mono hWB.size)
  have H1 := H.below b1
  have hlt1 : ∀ q, Fts h ov os q → q < w1.heap.size := fun q e => Nat.lt_of_lt_of_le (hlt q e) b1.size
  refine ask_array p hRt hW1 hN (P := fun w2 w' => NowL w2 h bud sp ov os w' (sp) (os.length)) (F := Fts h ov os) (fun q e => ⟨hfar q e, Nat.lt_of_lt_of_le (hlt q e) b1.size⟩) (Nat.lt_of_lt_of_le H.hlt b1.size) (fun w2 g off cap b2 hro => ?_) (fun w2 w' N => N.fr) (fun w2 w3 w' b2 N f => N.puts b2 hlt1 (fun _ e => e) f)
  have H2 := H1.below b2
  refine (array_bad h1).mono fun e w' hh => ?_
  obtain ⟨rfl, b3⟩ := hh
  exact ⟨rfl, NowL.same H2 b3⟩
theorem stp_bnd_ok (hRt : RtV W p.lv l) (hN : l.length ≤ 8796093021952) (hWB : Below W.heap.size W w) (H : Hp w h bud sp ov os) (hb : 0 ≤ bud ∧ bud < 4611686018427387904) (hs : 0 ≤ sp ∧ sp ≤ bud) (hfar : ∀ q, Fts h ov os q → W.heap.size ≤ q) (hL : os.length ≤ 3000000000000) (h0 : 0 ≤ p.n) (h1 : l.length ≤ 4096) (hr : 2 + (l.length : Int) ≤ bud - sp) : ∃ n may k nn ok sp' L, Stp w h bud sp ov os 5 p n may k nn ok sp' L := by
  obtain ⟨la, lc, elv, hrest⟩ := hRt
  have hRt : RtV W p.lv l := ⟨la, lc, elv, hrest⟩
  have hlt := H.lt
  refine ⟨2 + (l.length : Int), true, 8, (os.length : Int), true, sp + (2 + (l.length : Int)), os.length + 1, fun w1 b1 => cost_bnd_yes elv hN h1 h0, fun w1 b1 => ?_, (by simp [hr]), fun _ => ⟨rfl, by omega, .inr ⟨by omega, by omega, rfl, rfl, by omega⟩⟩, (fun e => by cases e)⟩
  have hW1 := hWB.trans (b1.mono hWB.size)
  have H1 := H.below b1
  have hlt1 : ∀ q, Fts h ov os q → q < w1.heap.size := fun q e => Nat.lt_of_lt_of_le (hlt q e) b1.size
  refine ask_bound p hRt hW1 hN (P := fun w2 w' => NowL w2 h bud sp ov os w' (sp + (2 + (l.length : Int))) (os.length + 1)) (F := Fts h ov os) (fun q e => ⟨hfar q e, Nat.lt_of_lt_of_le (hlt q e) b1.size⟩) (Nat.lt_of_lt_of_le H.hlt b1.size) (fun w2 g off cap b2 hro => ?_) (fun w2 w' N => N.fr) (fun w2 w3 w' b2 N f => N.puts b2 hlt1 (fun _ e => e) f)
  have H2 := H1.below b2
  refine (bound_ok H2 ⟨hb.1, by omega⟩ ⟨hs.1, by omega⟩ hro h1 h0 hr (by omega)).mono fun e w' hh => ?_
  obtain ⟨rfl, o, _, _, _, _, _, N⟩ := hh
  exact ⟨rfl, _, N, by simp⟩
theorem stp_bnd_no (hRt : RtV W p.lv l) (hN : l.length ≤ 8796093021952) (hWB : Below W.heap.size W w) (H : Hp w h bud sp ov os) (hb : 0 ≤ bud ∧ bud < 4611686018427387904) (hs : 0 ≤ sp ∧ sp ≤ bud) (hfar : ∀ q, Fts h ov os q → W.heap.size ≤ q) (hL : os.length ≤ 3000000000000) (h0 : 0 ≤ p.n) (h1 : l.length ≤ 4096) (hr : bud - sp < 2 + (l.length : Int)) : ∃ n may k nn ok sp' L, Stp w h bud sp ov os 5 p n may k nn ok sp' L := by
  obtain ⟨la, lc, elv, hrest⟩ := hRt
  have hRt : RtV W p.lv l := ⟨la, lc, elv, hrest⟩
  have hlt := H.lt
  refine ⟨2 + (l.length : Int), true, 0, 0, false, sp, os.length, fun w1 b1 => cost_bnd_yes elv hN h1 h0, fun w1 b1 => ?_, (by simp; omega), (fun e => by cases e), fun _ => ⟨rfl, rfl, rfl, rfl⟩⟩
  have hW1 := hWB.trans (b1.mono hWB.size)
  have H1 := H.below b1
  have hlt1 : ∀ q, Fts h ov os q → q < w1.heap.size := fun q e => Nat.lt_of_lt_of_le (hlt q e) b1.size
  refine ask_bound p hRt hW1 hN (P := fun w2 w' => NowL w2 h bud sp ov os w' (sp) (os.length)) (F := Fts h ov os) (fun q e => ⟨hfar q e, Nat.lt_of_lt_of_le (hlt q e) b1.size⟩) (Nat.lt_of_lt_of_le H.hlt b1.size) (fun w2 g off cap b2 hro => ?_) (fun w2 w' N => N.fr) (fun w2 w3 w' b2 N f => N.puts b2 hlt1 (fun _ e => e) f)
  have H2 := H1.below b2
  refine (bound_no H2 ⟨hb.1, by omega⟩ ⟨hs.1, by omega⟩ hro h1 h0 hr).mono fun e w' hh => ?_
  obtain ⟨rfl, b3⟩ := hh
  exact ⟨rfl, NowL.same H2 b3⟩
theorem stp_bnd_bad1 (hRt : RtV W p.lv l) (hN : l.length ≤ 8796093021952) (hWB : Below W.heap.size W w) (H : Hp w h bud sp ov os) (hb : 0 ≤ bud ∧ bud < 4611686018427387904) (hs : 0 ≤ sp ∧ sp ≤ bud) (hfar : ∀ q, Fts h ov os q → W.heap.size ≤ q) (hL : os.length ≤ 3000000000000) (h0 : 0 ≤ p.n) (h1 : 4096 < l.length) : ∃ n may k nn ok sp' L, Stp w h bud sp ov os 5 p n may k nn ok sp' L := by
  obtain ⟨la, lc, elv, hrest⟩ := hRt
  have hRt : RtV W p.lv l := ⟨la, lc, elv, hrest⟩
  have hlt := H.lt
  refine ⟨2 + (l.length : Int), false, 0, 0, false, sp, os.length, fun w1 b1 => cost_bnd_no1 elv hN h1, fun w1 b1 => ?_, rfl, (fun e => by cases e), fun _ => ⟨rfl, rfl, rfl, rfl⟩⟩
  have hW1 := hWB.trans (b1.mono hWB.size)
  have H1 := H.below b1
  have hlt1 : ∀ q, Fts h ov os q → q < w1.heap.size := fun q e => Nat.lt_of_lt_of_le (hlt q e) b1.size
  refine ask_bound p hRt hW1 hN (P := fun w2 w' => NowL w2 h bud sp ov os w' (sp) (os.length)) (F := Fts h ov os) (fun q e => ⟨hfar q e, Nat.lt_of_lt_of_le (hlt q e) b1.size⟩) (Nat.lt_of_lt_of_le H.hlt b1.size) (fun w2 g off cap b2 hro => ?_) (fun w2 w' N => N.fr) (fun w2 w3 w' b2 N f => N.puts b2 hlt1 (fun _ e => e) f)
  have H2 := H1.below b2
  refine (bound_bad2 h0 h1).mono fun e w' hh => ?_
  obtain ⟨rfl, b3⟩ := hh
  exact ⟨rfl, NowL.same H2 b3⟩
theorem stp_bnd_bad2 (hRt : RtV W p.lv l) (hN : l.length ≤ 8796093021952) (hWB : Below W.heap.size W w) (H : Hp w h bud sp ov os) (hb : 0 ≤ bud ∧ bud < 4611686018427387904) (hs : 0 ≤ sp ∧ sp ≤ bud) (hfar : ∀ q, Fts h ov os q → W.heap.size ≤ q) (hL : os.length ≤ 3000000000000) (h0 : p.n < 0) (h1 : l.length ≤ 4096) : ∃ n may k nn ok sp' L, Stp w h bud sp ov os 5 p n may k nn ok sp' L := by
  obtain ⟨la, lc, elv, hrest⟩ := hRt
  have hRt : RtV W p.lv l := ⟨la, lc, elv, hrest⟩
  have hlt := H.lt
  refine ⟨2 + (l.length : Int), false, 0, 0, false, sp, os.length, fun w1 b1 => cost_bnd_no2 elv hN h1 h0, fun w1 b1 => ?_, rfl, (fun e => by cases e), fun _ => ⟨rfl, rfl, rfl, rfl⟩⟩
  have hW1 := hWB.trans (b1.mono hWB.size)
  have H1 := H.below b1
  have hlt1 : ∀ q, Fts h ov os q → q < w1.heap.size := fun q e => Nat.lt_of_lt_of_le (hlt q e) b1.size
  refine ask_bound p hRt hW1 hN (P := fun w2 w' => NowL w2 h bud sp ov os w' (sp) (os.length)) (F := Fts h ov os) (fun q e => ⟨hfar q e, Nat.lt_of_lt_of_le (hlt q e) b1.size⟩) (Nat.lt_of_lt_of_le H.hlt b1.size) (fun w2 g off cap b2 hro => ?_) (fun w2 w' N => N.fr) (fun w2 w3 w' b2 N f => N.puts b2 hlt1 (fun _ e => e) f)
  have H2 := H1.below b2
  refine (bound_bad1 h0).mono fun e w' hh => ?_
  obtain ⟨rfl, b3⟩ := hh
  exact ⟨rfl, NowL.same H2 b3⟩
theorem stp_bnd_bad3 (hRt : RtV W p.lv l) (hN : l.length ≤ 8796093021952) (hWB : Below W.heap.size W w) (H : Hp w h bud sp ov os) (hb : 0 ≤ bud ∧ bud < 4611686018427387904) (hs : 0 ≤ sp ∧ sp ≤ bud) (hfar : ∀ q, Fts h ov os q → W.heap.size ≤ q) (hL : os.length ≤ 3000000000000) (h0 : p.n < 0) (h1 : 4096 < l.length) : ∃ n may k nn ok sp' L, Stp w h bud sp ov os 5 p n may k nn ok sp' L := by
  obtain ⟨la, lc, elv, hrest⟩ := hRt
  have hRt : RtV W p.lv l := ⟨la, lc, elv, hrest⟩
  have hlt := H.lt
  refine ⟨2 + (l.length : Int), false, 0, 0, false, sp, os.length, fun w1 b1 => cost_bnd_no1 elv hN h1, fun w1 b1 => ?_, rfl, (fun e => by cases e), fun _ => ⟨rfl, rfl, rfl, rfl⟩⟩
  have hW1 := hWB.trans (b1.mono hWB.size)
  have H1 := H.below b1
  have hlt1 : ∀ q, Fts h ov os q → q < w1.heap.size := fun q e => Nat.lt_of_lt_of_le (hlt q e) b1.size
  refine ask_bound p hRt hW1 hN (P := fun w2 w' => NowL w2 h bud sp ov os w' (sp) (os.length)) (F := Fts h ov os) (fun q e => ⟨hfar q e, Nat.lt_of_lt_of_le (hlt q e) b1.size⟩) (Nat.lt_of_lt_of_le H.hlt b1.size) (fun w2 g off cap b2 hro => ?_) (fun w2 w' N => N.fr) (fun w2 w3 w' b2 N f => N.puts b2 hlt1 (fun _ e => e) f)
  have H2 := H1.below b2
  refine (bound_bad1 h0).mono fun e w' hh => ?_
  obtain ⟨rfl, b3⟩ := hh
  exact ⟨rfl, NowL.same H2 b3⟩
theorem stp_rec_ok (hRt : RtV W p.lv l) (hN : l.length ≤ 8796093021952) (hWB : Below W.heap.size W w) (H : Hp w h bud sp ov os) (hb : 0 ≤ bud ∧ bud < 4611686018427387904) (hs : 0 ≤ sp ∧ sp ≤ bud) (hfar : ∀ q, Fts h ov os q → W.heap.size ≤ q) (hL : os.length ≤ 3000000000000) (hr : 2 ≤ bud - sp) : ∃ n may k nn ok sp' L, Stp w h bud sp ov os 4 p n may k nn ok sp' L := by
  obtain ⟨la, lc, elv, hrest⟩ := hRt
  have hRt : RtV W p.lv l := ⟨la, lc, elv, hrest⟩
  have hlt := H.lt
  refine ⟨2, true, 7, (os.length : Int), true, sp + 2, os.length + 1, fun w1 b1 => cost_rec elv hN, fun w1 b1 => ?_, (by simp [hr]), fun _ => ⟨rfl, by omega, .inr ⟨by omega, by omega, rfl, rfl, by omega⟩⟩, (fun e => by cases e)⟩
  have hW1 := hWB.trans (b1.mono hWB.size)
  have H1 := H.below b1
  have hlt1 : ∀ q, Fts h ov os q → q < w1.heap.size := fun q e => Nat.lt_of_lt_of_le (hlt q e) b1.size
  refine ask_plain p hRt hW1 hN (P := fun w2 w' => NowL w2 h bud sp ov os w' (sp + 2) (os.length + 1)) (F := Fts h ov os) (fun q e => ⟨hfar q e, Nat.lt_of_lt_of_le (hlt q e) b1.size⟩) (Nat.lt_of_lt_of_le H.hlt b1.size) (by omega) (by omega) (by omega) (fun w2 g off cap b2 hro => ?_) (fun w2 w' N => N.fr) (fun w2 w3 w' b2 N f => N.puts b2 hlt1 (fun _ e => e) f)
  have H2 := H1.below b2
  have hlt2 : ∀ q, Fts h ov os q → q < w2.heap.size := fun q e => Nat.lt_of_lt_of_le (hlt1 q e) b2.size
  have hB3 : Below w2.heap.size w2 (((w2.alloc (.cells #[.int .i64 p.on, .int .i64 p.call, .int .i64 p.vk, .int .i64 p.vn, .int .i64 p.xk, .int .i64 p.xn, .int .i64 p.i, .int .i64 p.n, .slice la l.length lc] 38)).alloc (.cells (saidC 0 0 false) 58)).alloc (.cells (saidC 0 0 false) 58)) := (((Below.refl _ _).alloc (Nat.le_refl _) _).alloc (by simp) _).alloc (by simp; omega) _
  have H3 := H2.below hB3
  refine plain_record p elv (S := fun _ => True) (P := fun w' => NowL (((w2.alloc (.cells #[.int .i64 p.on, .int .i64 p.call, .int .i64 p.vk, .int .i64 p.vn, .int .i64 p.xk, .int .i64 p.xn, .int .i64 p.i, .int .i64 p.n, .slice la l.length lc] 38)).alloc (.cells (saidC 0 0 false) 58)).alloc (.cells (saidC 0 0 false) 58)) h bud sp ov os w' (sp + 2) (os.length + 1)) (F := Fts h ov os) hlt2 H2.hlt ((record_ok H3 ⟨hb.1, by omega⟩ ⟨hs.1, by omega⟩ hr (by omega)).mono fun e w' hh => ?_) (fun w' N => N.fr) (fun w3 w' N f => N.puts hB3 hlt2 (fun q e => by simp; omega) f)
  obtain ⟨rfl, o, _, _, _, N⟩ := hh
  exact ⟨rfl, _, N, by simp⟩
theorem stp_rec_no (hRt : RtV W p.lv l) (hN : l.length ≤ 8796093021952) (hWB : Below W.heap.size W w) (H : Hp w h bud sp ov os) (hb : 0 ≤ bud ∧ bud < 4611686018427387904) (hs : 0 ≤ sp ∧ sp ≤ bud) (hfar : ∀ q, Fts h ov os q → W.heap.size ≤ q) (hL : os.length ≤ 3000000000000) (hr : bud - sp < 2) : ∃ n may k nn ok sp' L, Stp w h bud sp ov os 4 p n may k nn ok sp' L := by
  obtain ⟨la, lc, elv, hrest⟩ := hRt
  have hRt : RtV W p.lv l := ⟨la, lc, elv, hrest⟩
  have hlt := H.lt
  refine ⟨2, true, 0, 0, false, sp, os.length, fun w1 b1 => cost_rec elv hN, fun w1 b1 => ?_, (by simp; omega), (fun e => by cases e), fun _ => ⟨rfl, rfl, rfl, rfl⟩⟩
  have hW1 := hWB.trans (b1.mono hWB.size)
  have H1 := H.below b1
  have hlt1 : ∀ q, Fts h ov os q → q < w1.heap.size := fun q e => Nat.lt_of_lt_of_le (hlt q e) b1.size
  refine ask_plain p hRt hW1 hN (P := fun w2 w' => NowL w2 h bud sp ov os w' (sp) (os.length)) (F := Fts h ov os) (fun q e => ⟨hfar q e, Nat.lt_of_lt_of_le (hlt q e) b1.size⟩) (Nat.lt_of_lt_of_le H.hlt b1.size) (by omega) (by omega) (by omega) (fun w2 g off cap b2 hro => ?_) (fun w2 w' N => N.fr) (fun w2 w3 w' b2 N f => N.puts b2 hlt1 (fun _ e => e) f)
  have H2 := H1.below b2
  have hlt2 : ∀ q, Fts h ov os q → q < w2.heap.size := fun q e => Nat.lt_of_lt_of_le (hlt1 q e) b2.size
  have hB3 : Below w2.heap.size w2 (((w2.alloc (.cells #[.int .i64 p.on, .int .i64 p.call, .int .i64 p.vk, .int .i64 p.vn, .int .i64 p.xk, .int .i64 p.xn, .int .i64 p.i, .int .i64 p.n, .slice la l.length lc] 38)).alloc (.cells (saidC 0 0 false) 58)).alloc (.cells (saidC 0 0 false) 58)) := (((Below.refl _ _).alloc (Nat.le_refl _) _).alloc (by simp) _).alloc (by simp; omega) _
  have H3 := H2.below hB3
  refine plain_record p elv (S := fun _ => True) (P := fun w' => NowL (((w2.alloc (.cells #[.int .i64 p.on, .int .i64 p.call, .int .i64 p.vk, .int .i64 p.vn, .int .i64 p.xk, .int .i64 p.xn, .int .i64 p.i, .int .i64 p.n, .slice la l.length lc] 38)).alloc (.cells (saidC 0 0 false) 58)).alloc (.cells (saidC 0 0 false) 58)) h bud sp ov os w' (sp) (os.length)) (F := Fts h ov os) hlt2 H2.hlt ((record_no H3 ⟨hb.1, by omega⟩ ⟨hs.1, by omega⟩ hr).mono fun e w' hh => ?_) (fun w' N => N.fr) (fun w3 w' N f => N.puts hB3 hlt2 (fun q e => by simp; omega) f)
  obtain ⟨rfl, b3⟩ := hh
  exact ⟨rfl, NowL.same H3 b3⟩
theorem stp_chn_ok (hRt : RtV W p.lv l) (hN : l.length ≤ 8796093021952) (hWB : Below W.heap.size W w) (H : Hp w h bud sp ov os) (hb : 0 ≤ bud ∧ bud < 4611686018427387904) (hs : 0 ≤ sp ∧ sp ≤ bud) (hfar : ∀ q, Fts h ov os q → W.heap.size ≤ q) (hL : os.length ≤ 3000000000000) (h1 : 1 ≤ p.n) (h2 : p.n ≤ 64) (hr : 2 + p.n ≤ bud - sp) : ∃ n may k nn ok sp' L, Stp w h bud sp ov os 6 p n may k nn ok sp' L := by
  obtain ⟨la, lc, elv, hrest⟩ := hRt
  have hRt : RtV W p.lv l := ⟨la, lc, elv, hrest⟩
  have hlt := H.lt
  refine ⟨2 + ((pick p.n 66 : Nat) : Int), true, 9, (os.length : Int), true, sp + (2 + p.n), os.length + 1, fun w1 b1 => cost_chn_yes elv hN h1 h2, fun w1 b1 => ?_, (by rw [pick_small (by omega) (by omega)]; simp [hr]), fun _ => ⟨by rw [pick_small (by omega) (by omega)], by omega, .inr ⟨by omega, by omega, rfl, rfl, by omega⟩⟩, (fun e => by cases e)⟩
  have hW1 := hWB.trans (b1.mono hWB.size)
  have H1 := H.below b1
  have hlt1 : ∀ q, Fts h ov os q → q < w1.heap.size := fun q e => Nat.lt_of_lt_of_le (hlt q e) b1.size
  refine ask_plain p hRt hW1 hN (P := fun w2 w' => NowL w2 h bud sp ov os w' (sp + (2 + p.n)) (os.length + 1)) (F := Fts h ov os) (fun q e => ⟨hfar q e, Nat.lt_of_lt_of_le (hlt q e) b1.size⟩) (Nat.lt_of_lt_of_le H.hlt b1.size) (by omega) (by omega) (by omega) (fun w2 g off cap b2 hro => ?_) (fun w2 w' N => N.fr) (fun w2 w3 w' b2 N f => N.puts b2 hlt1 (fun _ e => e) f)
  have H2 := H1.below b2
  have hlt2 : ∀ q, Fts h ov os q → q < w2.heap.size := fun q e => Nat.lt_of_lt_of_le (hlt1 q e) b2.size
  have hB3 : Below w2.heap.size w2 (((w2.alloc (.cells #[.int .i64 p.on, .int .i64 p.call, .int .i64 p.vk, .int .i64 p.vn, .int .i64 p.xk, .int .i64 p.xn, .int .i64 p.i, .int .i64 p.n, .slice la l.length lc] 38)).alloc (.cells (saidC 0 0 false) 58)).alloc (.cells (saidC 0 0 false) 58)) := (((Below.refl _ _).alloc (Nat.le_refl _) _).alloc (by simp) _).alloc (by simp; omega) _
  have H3 := H2.below hB3
  refine plain_chan p elv (S := fun _ => True) (P := fun w' => NowL (((w2.alloc (.cells #[.int .i64 p.on, .int .i64 p.call, .int .i64 p.vk, .int .i64 p.vn, .int .i64 p.xk, .int .i64 p.xn, .int .i64 p.i, .int .i64 p.n, .slice la l.length lc] 38)).alloc (.cells (saidC 0 0 false) 58)).alloc (.cells (saidC 0 0 false) 58)) h bud sp ov os w' (sp + (2 + p.n)) (os.length + 1)) (F := Fts h ov os) hlt2 H2.hlt ((chan_ok H3 ⟨hb.1, by omega⟩ ⟨hs.1, by omega⟩ p.n h1 h2 hr (by omega)).mono fun e w' hh => ?_) (fun w' N => N.fr) (fun w3 w' N f => N.puts hB3 hlt2 (fun q e => by simp; omega) f)
  obtain ⟨rfl, o, N⟩ := hh
  exact ⟨rfl, _, N, by simp⟩
theorem stp_chn_no (hRt : RtV W p.lv l) (hN : l.length ≤ 8796093021952) (hWB : Below W.heap.size W w) (H : Hp w h bud sp ov os) (hb : 0 ≤ bud ∧ bud < 4611686018427387904) (hs : 0 ≤ sp ∧ sp ≤ bud) (hfar : ∀ q, Fts h ov os q → W.heap.size ≤ q) (hL : os.length ≤ 3000000000000) (h1 : 1 ≤ p.n) (h2 : p.n ≤ 64) (hr : bud - sp < 2 + p.n) : ∃ n may k nn ok sp' L, Stp w h bud sp ov os 6 p n may k nn ok sp' L := by
  obtain ⟨la, lc, elv, hrest⟩ := hRt
  have hRt : RtV W p.lv l := ⟨la, lc, elv, hrest⟩
  have hlt := H.lt
  refine ⟨2 + ((pick p.n 66 : Nat) : Int), true, 0, 0, false, sp, os.length, fun w1 b1 => cost_chn_yes elv hN h1 h2, fun w1 b1 => ?_, (by rw [pick_small (by omega) (by omega)]; simp; omega), (fun e => by cases e), fun _ => ⟨rfl, rfl, rfl, rfl⟩⟩
  have hW1 := hWB.trans (b1.mono hWB.size)
  have H1 := H.below b1
  have hlt1 : ∀ q, Fts h ov os q → q < w1.heap.size := fun q e => Nat.lt_of_lt_of_le (hlt q e) b1.size
  refine ask_plain p hRt hW1 hN (P := fun w2 w' => NowL w2 h bud sp ov os w' (sp) (os.length)) (F := Fts h ov os) (fun q e => ⟨hfar q e, Nat.lt_of_lt_of_le (hlt q e) b1.size⟩) (Nat.lt_of_lt_of_le H.hlt b1.size) (by omega) (by omega) (by omega) (fun w2 g off cap b2 hro => ?_) (fun w2 w' N => N.fr) (fun w2 w3 w' b2 N f => N.puts b2 hlt1 (fun _ e => e) f)
  have H2 := H1.below b2
  have hlt2 : ∀ q, Fts h ov os q → q < w2.heap.size := fun q e => Nat.lt_of_lt_of_le (hlt1 q e) b2.size
  have hB3 : Below w2.heap.size w2 (((w2.alloc (.cells #[.int .i64 p.on, .int .i64 p.call, .int .i64 p.vk, .int .i64 p.vn, .int .i64 p.xk, .int .i64 p.xn, .int .i64 p.i, .int .i64 p.n, .slice la l.length lc] 38)).alloc (.cells (saidC 0 0 false) 58)).alloc (.cells (saidC 0 0 false) 58)) := (((Below.refl _ _).alloc (Nat.le_refl _) _).alloc (by simp) _).alloc (by simp; omega) _
  have H3 := H2.below hB3
  refine plain_chan p elv (S := fun _ => True) (P := fun w' => NowL (((w2.alloc (.cells #[.int .i64 p.on, .int .i64 p.call, .int .i64 p.vk, .int .i64 p.vn, .int .i64 p.xk, .int .i64 p.xn, .int .i64 p.i, .int .i64 p.n, .slice la l.length lc] 38)).alloc (.cells (saidC 0 0 false) 58)).alloc (.cells (saidC 0 0 false) 58)) h bud sp ov os w' (sp) (os.length)) (F := Fts h ov os) hlt2 H2.hlt ((chan_no H3 ⟨hb.1, by omega⟩ ⟨hs.1, by omega⟩ h1 h2 hr).mono fun e w' hh => ?_) (fun w' N => N.fr) (fun w3 w' N f => N.puts hB3 hlt2 (fun q e => by simp; omega) f)
  obtain ⟨rfl, b3⟩ := hh
  exact ⟨rfl, NowL.same H3 b3⟩
theorem stp_chn_bad1 (hRt : RtV W p.lv l) (hN : l.length ≤ 8796093021952) (hWB : Below W.heap.size W w) (H : Hp w h bud sp ov os) (hb : 0 ≤ bud ∧ bud < 4611686018427387904) (hs : 0 ≤ sp ∧ sp ≤ bud) (hfar : ∀ q, Fts h ov os q → W.heap.size ≤ q) (hL : os.length ≤ 3000000000000) (h1 : p.n < 1) : ∃ n may k nn ok sp' L, Stp w h bud sp ov os 6 p n may k nn ok sp' L := by
  obtain ⟨la, lc, elv, hrest⟩ := hRt
  have hRt : RtV W p.lv l := ⟨la, lc, elv, hrest⟩
  have hlt := H.lt
  refine ⟨2 + ((pick p.n 66 : Nat) : Int), false, 0, 0, false, sp, os.length, fun w1 b1 => cost_chn_no1 elv hN h1, fun w1 b1 => ?_, rfl, (fun e => by cases e), fun _ => ⟨rfl, rfl, rfl, rfl⟩⟩
  have hW1 := hWB.trans (b1.mono hWB.size)
  have H1 := H.below b1
  have hlt1 : ∀ q, Fts h ov os q → q < w1.heap.size := fun q e => Nat.lt_of_lt_of_le (hlt q e) b1.size
  refine ask_plain p hRt hW1 hN (P := fun w2 w' => NowL w2 h bud sp ov os w' (sp) (os.length)) (F := Fts h ov os) (fun q e => ⟨hfar q e, Nat.lt_of_lt_of_le (hlt q e) b1.size⟩) (Nat.lt_of_lt_of_le H.hlt b1.size) (by omega) (by omega) (by omega) (fun w2 g off cap b2 hro => ?_) (fun w2 w' N => N.fr) (fun w2 w3 w' b2 N f => N.puts b2 hlt1 (fun _ e => e) f)
  have H2 := H1.below b2
  have hlt2 : ∀ q, Fts h ov os q → q < w2.heap.size := fun q e => Nat.lt_of_lt_of_le (hlt1 q e) b2.size
  have hB3 : Below w2.heap.size w2 (((w2.alloc (.cells #[.int .i64 p.on, .int .i64 p.call, .int .i64 p.vk, .int .i64 p.vn, .int .i64 p.xk, .int .i64 p.xn, .int .i64 p.i, .int .i64 p.n, .slice la l.length lc] 38)).alloc (.cells (saidC 0 0 false) 58)).alloc (.cells (saidC 0 0 false) 58)) := (((Below.refl _ _).alloc (Nat.le_refl _) _).alloc (by simp) _).alloc (by simp; omega) _
  have H3 := H2.below hB3
  refine plain_chan p elv (S := fun _ => True) (P := fun w' => NowL (((w2.alloc (.cells #[.int .i64 p.on, .int .i64 p.call, .int .i64 p.vk, .int .i64 p.vn, .int .i64 p.xk, .int .i64 p.xn, .int .i64 p.i, .int .i64 p.n, .slice la l.length lc] 38)).alloc (.cells (saidC 0 0 false) 58)).alloc (.cells (saidC 0 0 false) 58)) h bud sp ov os w' (sp) (os.length)) (F := Fts h ov os) hlt2 H2.hlt ((chan_bad1 h1).mono fun e w' hh => ?_) (fun w' N => N.fr) (fun w3 w' N f => N.puts hB3 hlt2 (fun q e => by simp; omega) f)
  obtain ⟨rfl, b3⟩ := hh
  exact ⟨rfl, NowL.same H3 b3⟩
theorem stp_chn_bad2 (hRt : RtV W p.lv l) (hN : l.length ≤ 8796093021952) (hWB : Below W.heap.size W w) (H : Hp w h bud sp ov os) (hb : 0 ≤ bud ∧ bud < 4611686018427387904) (hs : 0 ≤ sp ∧ sp ≤ bud) (hfar : ∀ q, Fts h ov os q → W.heap.size ≤ q) (hL : os.length ≤ 3000000000000) (h1 : 1 ≤ p.n) (h2 : 64 < p.n) : ∃ n may k nn ok sp' L, Stp w h bud sp ov os 6 p n may k nn ok sp' L := by
  obtain ⟨la, lc, elv, hrest⟩ := hRt
  have hRt : RtV W p.lv l := ⟨la, lc, elv, hrest⟩
  have hlt := H.lt
  refine ⟨2 + ((pick p.n 66 : Nat) : Int), false, 0, 0, false, sp, os.length, fun w1 b1 => cost_chn_no2 elv hN h1 h2, fun w1 b1 => ?_, rfl, (fun e => by cases e), fun _ => ⟨rfl, rfl, rfl, rfl⟩⟩
  have hW1 := hWB.trans (b1.mono hWB.size)
  have H1 := H.below b1
  have hlt1 : ∀ q, Fts h ov os q → q < w1.heap.size := fun q e => Nat.lt_of_lt_of_le (hlt q e) b1.size
  refine ask_plain p hRt hW1 hN (P := fun w2 w' => NowL w2 h bud sp ov os w' (sp) (os.length)) (F := Fts h ov os) (fun q e => ⟨hfar q e, Nat.lt_of_lt_of_le (hlt q e) b1.size⟩) (Nat.lt_of_lt_of_le H.hlt b1.size) (by omega) (by omega) (by omega) (fun w2 g off cap b2 hro => ?_) (fun w2 w' N => N.fr) (fun w2 w3 w' b2 N f => N.puts b2 hlt1 (fun _ e => e) f)
  have H2 := H1.below b2
  have hlt2 : ∀ q, Fts h ov os q → q < w2.heap.size := fun q e => Nat.lt_of_lt_of_le (hlt1 q e) b2.size
  have hB3 : Below w2.heap.size w2 (((w2.alloc (.cells #[.int .i64 p.on, .int .i64 p.call, .int .i64 p.vk, .int .i64 p.vn, .int .i64 p.xk, .int .i64 p.xn, .int .i64 p.i, .int .i64 p.n, .slice la l.length lc] 38)).alloc (.cells (saidC 0 0 false) 58)).alloc (.cells (saidC 0 0 false) 58)) := (((Below.refl _ _).alloc (Nat.le_refl _) _).alloc (by simp) _).alloc (by simp; omega) _
  have H3 := H2.below hB3
  refine plain_chan p elv (S := fun _ => True) (P := fun w' => NowL (((w2.alloc (.cells #[.int .i64 p.on, .int .i64 p.call, .int .i64 p.vk, .int .i64 p.vn, .int .i64 p.xk, .int .i64 p.xn, .int .i64 p.i, .int .i64 p.n, .slice la l.length lc] 38)).alloc (.cells (saidC 0 0 false) 58)).alloc (.cells (saidC 0 0 false) 58)) h bud sp ov os w' (sp) (os.length)) (F := Fts h ov os) hlt2 H2.hlt ((chan_bad2 h1 h2).mono fun e w' hh => ?_) (fun w' N => N.fr) (fun w3 w' N f => N.puts hB3 hlt2 (fun q e => by simp; omega) f)
  obtain ⟨rfl, b3⟩ := hh
  exact ⟨rfl, NowL.same H3 b3⟩
theorem stp_spd_ok (hRt : RtV W p.lv l) (hN : l.length ≤ 8796093021952) (hWB : Below W.heap.size W w) (H : Hp w h bud sp ov os) (hb : 0 ≤ bud ∧ bud < 4611686018427387904) (hs : 0 ≤ sp ∧ sp ≤ bud) (hfar : ∀ q, Fts h ov os q → W.heap.size ≤ q) (hL : os.length ≤ 3000000000000) (h1 : 0 ≤ p.n) (hr : p.n ≤ bud - sp) : ∃ n may k nn ok sp' L, Stp w h bud sp ov os 0 p n may k nn ok sp' L := by
  obtain ⟨la, lc, elv, hrest⟩ := hRt
  have hRt : RtV W p.lv l := ⟨la, lc, elv, hrest⟩
  have hlt := H.lt
  refine ⟨p.n, true, 0, 0, true, sp + p.n, os.length, fun w1 b1 => cost_spd_yes elv hN h1, fun w1 b1 => ?_, (by simp [hr]), fun _ => ⟨rfl, h1, .inl ⟨rfl, rfl, rfl, rfl⟩⟩, (fun e => by cases e)⟩
  have hW1 := hWB.trans (b1.mono hWB.size)
  have H1 := H.below b1
  have hlt1 : ∀ q, Fts h ov os q → q < w1.heap.size := fun q e => Nat.lt_of_lt_of_le (hlt q e) b1.size
  refine ask_plain p hRt hW1 hN (P := fun w2 w' => NowL w2 h bud sp ov os w' (sp + p.n) (os.length)) (F := Fts h ov os) (fun q e => ⟨hfar q e, Nat.lt_of_lt_of_le (hlt q e) b1.size⟩) (Nat.lt_of_lt_of_le H.hlt b1.size) (by omega) (by omega) (by omega) (fun w2 g off cap b2 hro => ?_) (fun w2 w' N => N.fr) (fun w2 w3 w' b2 N f => N.puts b2 hlt1 (fun _ e => e) f)
  have H2 := H1.below b2
  have hlt2 : ∀ q, Fts h ov os q → q < w2.heap.size := fun q e => Nat.lt_of_lt_of_le (hlt1 q e) b2.size
  have hB3 : Below w2.heap.size w2 (((w2.alloc (.cells #[.int .i64 p.on, .int .i64 p.call, .int .i64 p.vk, .int .i64 p.vn, .int .i64 p.xk, .int .i64 p.xn, .int .i64 p.i, .int .i64 p.n, .slice la l.length lc] 38)).alloc (.cells (saidC 0 0 false) 58)).alloc (.cells (saidC 0 0 false) 58)) := (((Below.refl _ _).alloc (Nat.le_refl _) _).alloc (by simp) _).alloc (by simp; omega) _
  have H3 := H2.below hB3
  refine plain_spend p elv (S := fun _ => True) (P := fun w' => NowL (((w2.alloc (.cells #[.int .i64 p.on, .int .i64 p.call, .int .i64 p.vk, .int .i64 p.vn, .int .i64 p.xk, .int .i64 p.xn, .int .i64 p.i, .int .i64 p.n, .slice la l.length lc] 38)).alloc (.cells (saidC 0 0 false) 58)).alloc (.cells (saidC 0 0 false) 58)) h bud sp ov os w' (sp + p.n) (os.length)) (F := Fts h ov os) hlt2 H2.hlt ((spend_ok H3 ⟨hb.1, by omega⟩ ⟨hs.1, by omega⟩ p.n h1 hr).mono fun e w' hh => ?_) (fun w' N => N.fr) (fun w3 w' N f => N.puts hB3 hlt2 (fun q e => by simp; omega) f)
  obtain ⟨rfl, N, f, hz⟩ := hh
  exact ⟨rfl, os, ⟨ov, N, f, fun k hk => .inl hk⟩, rfl⟩
theorem stp_spd_no (hRt : RtV W p.lv l) (hN : l.length ≤ 8796093021952) (hWB : Below W.heap.size W w) (H : Hp w h bud sp ov os) (hb : 0 ≤ bud ∧ bud < 4611686018427387904) (hs : 0 ≤ sp ∧ sp ≤ bud) (hfar : ∀ q, Fts h ov os q → W.heap.size ≤ q) (hL : os.length ≤ 3000000000000) (h1 : 0 ≤ p.n) (hr : bud - sp < p.n) : ∃ n may k nn ok sp' L, Stp w h bud sp ov os 0 p n may k nn ok sp' L := by
  obtain ⟨la, lc, elv, hrest⟩ := hRt
  have hRt : RtV W p.lv l := ⟨la, lc, elv, hrest⟩
  have hlt := H.lt
  refine ⟨p.n, true, 0, 0, false, sp, os.length, fun w1 b1 => cost_spd_yes elv hN h1, fun w1 b1 => ?_, (by simp; omega), (fun e => by cases e), fun _ => ⟨rfl, rfl, rfl, rfl⟩⟩
  have hW1 := hWB.trans (b1.mono hWB.size)
  have H1 := H.below b1
  have hlt1 : ∀ q, Fts h ov os q → q < w1.heap.size := fun q e => Nat.lt_of_lt_of_le (hlt q e) b1.size
  refine ask_plain p hRt hW1 hN (P := fun w2 w' => NowL w2 h bud sp ov os w' (sp) (os.length)) (F := Fts h ov os) (fun q e => ⟨hfar q e, Nat.lt_of_lt_of_le (hlt q e) b1.size⟩) (Nat.lt_of_lt_of_le H.hlt b1.size) (by omega) (by omega) (by omega) (fun w2 g off cap b2 hro => ?_) (fun w2 w' N => N.fr) (fun w2 w3 w' b2 N f => N.puts b2 hlt1 (fun _ e => e) f)
  have H2 := H1.below b2
  have hlt2 : ∀ q, Fts h ov os q → q < w2.heap.size := fun q e => Nat.lt_of_lt_of_le (hlt1 q e) b2.size
  have hB3 : Below w2.heap.size w2 (((w2.alloc (.cells #[.int .i64 p.on, .int .i64 p.call, .int .i64 p.vk, .int .i64 p.vn, .int .i64 p.xk, .int .i64 p.xn, .int .i64 p.i, .int .i64 p.n, .slice la l.length lc] 38)).alloc (.cells (saidC 0 0 false) 58)).alloc (.cells (saidC 0 0 false) 58)) := (((Below.refl _ _).alloc (Nat.le_refl _) _).alloc (by simp) _).alloc (by simp; omega) _
  have H3 := H2.below hB3
  refine plain_spend p elv (S := fun _ => True) (P := fun w' => NowL (((w2.alloc (.cells #[.int .i64 p.on, .int .i64 p.call, .int .i64 p.vk, .int .i64 p.vn, .int .i64 p.xk, .int .i64 p.xn, .int .i64 p.i, .int .i64 p.n, .slice la l.length lc] 38)).alloc (.cells (saidC 0 0 false) 58)).alloc (.cells (saidC 0 0 false) 58)) h bud sp ov os w' (sp) (os.length)) (F := Fts h ov os) hlt2 H2.hlt ((spend_no H3 ⟨hb.1, by omega⟩ ⟨hs.1, by omega⟩ p.n (.inr hr)).mono fun e w' hh => ?_) (fun w' N => N.fr) (fun w3 w' N f => N.puts hB3 hlt2 (fun q e => by simp; omega) f)
  obtain ⟨rfl, q, rfl⟩ := hh
  exact ⟨rfl, NowL.same H3 ((Fr.drewN (S := fun _ => False) q).below (Nat.le_refl _) (fun _ _ e => e))⟩
theorem stp_spd_bad (hRt : RtV W p.lv l) (hN : l.length ≤ 8796093021952) (hWB : Below W.heap.size W w) (H : Hp w h bud sp ov os) (hb : 0 ≤ bud ∧ bud < 4611686018427387904) (hs : 0 ≤ sp ∧ sp ≤ bud) (hfar : ∀ q, Fts h ov os q → W.heap.size ≤ q) (hL : os.length ≤ 3000000000000) (h1 : p.n < 0) : ∃ n may k nn ok sp' L, Stp w h bud sp ov os 0 p n may k nn ok sp' L := by
  obtain ⟨la, lc, elv, hrest⟩ := hRt
  have hRt : RtV W p.lv l := ⟨la, lc, elv, hrest⟩
  have hlt := H.lt
  refine ⟨p.n, false, 0, 0, false, sp, os.length, fun w1 b1 => cost_spd_no elv hN h1, fun w1 b1 => ?_, rfl, (fun e => by cases e), fun _ => ⟨rfl, rfl, rfl, rfl⟩⟩
  have hW1 := hWB.trans (b1.mono hWB.size)
  have H1 := H.below b1
  have hlt1 : ∀ q, Fts h ov os q → q < w1.heap.size := fun q e => Nat.lt_of_lt_of_le (hlt q e) b1.size
  refine ask_plain p hRt hW1 hN (P := fun w2 w' => NowL w2 h bud sp ov os w' (sp) (os.length)) (F := Fts h ov os) (fun q e => ⟨hfar q e, Nat.lt_of_lt_of_le (hlt q e) b1.size⟩) (Nat.lt_of_lt_of_le H.hlt b1.size) (by omega) (by omega) (by omega) (fun w2 g off cap b2 hro => ?_) (fun w2 w' N => N.fr) (fun w2 w3 w' b2 N f => N.puts b2 hlt1 (fun _ e => e) f)
  have H2 := H1.below b2
  have hlt2 : ∀ q, Fts h ov os q → q < w2.heap.size := fun q e => Nat.lt_of_lt_of_le (hlt1 q e) b2.size
  have hB3 : Below w2.heap.size w2 (((w2.alloc (.cells #[.int .i64 p.on, .int .i64 p.call, .int .i64 p.vk, .int .i64 p.vn, .int .i64 p.xk, .int .i64 p.xn, .int .i64 p.i, .int .i64 p.n, .slice la l.length lc] 38)).alloc (.cells (saidC 0 0 false) 58)).alloc (.cells (saidC 0 0 false) 58)) := (((Below.refl _ _).alloc (Nat.le_refl _) _).alloc (by simp) _).alloc (by simp; omega) _
  have H3 := H2.below hB3
  refine plain_spend p elv (S := fun _ => True) (P := fun w' => NowL (((w2.alloc (.cells #[.int .i64 p.on, .int .i64 p.call, .int .i64 p.vk, .int .i64 p.vn, .int .i64 p.xk, .int .i64 p.xn, .int .i64 p.i, .int .i64 p.n, .slice la l.length lc] 38)).alloc (.cells (saidC 0 0 false) 58)).alloc (.cells (saidC 0 0 false) 58)) h bud sp ov os w' (sp) (os.length)) (F := Fts h ov os) hlt2 H2.hlt ((spend_no H3 ⟨hb.1, by omega⟩ ⟨hs.1, by omega⟩ p.n (.inl h1)).mono fun e w' hh => ?_) (fun w' N => N.fr) (fun w3 w' N f => N.puts hB3 hlt2 (fun q e => by simp; omega) f)
  obtain ⟨rfl, q, rfl⟩ := hh
  exact ⟨rfl, NowL.same H3 ((Fr.drewN (S := fun _ => False) q).below (Nat.le_refl _) (fun _ _ e => e))⟩
theorem stp_any (hRt : RtV W p.lv l) (hN : l.length ≤ 8796093021952) (hWB : Below W.heap.size W w) (H : Hp w h bud sp ov os) (hb : 0 ≤ bud ∧ bud < 4611686018427387904) (hs : 0 ≤ sp ∧ sp ≤ bud) (hfar : ∀ q, Fts h ov os q → W.heap.size ≤ q) (hL : os.length ≤ 3000000000000) (c : Int) (hc : c = 3 ∨ c = 4 ∨ c = 5 ∨ c = 6 ∨ c = 0) : ∃ n may k nn ok sp' L, Stp w h bud sp ov os c p n may k nn ok sp' L := by
  rcases hc with rfl | rfl | rfl | rfl | rfl
  · by_cases h1 : l.length ≤ 4096
    · by_cases hr : 2 + (l.length : Int) ≤ bud - sp
      · exact stp_arr_ok hRt hN hWB H hb hs hfar hL h1 hr
      · exact stp_arr_no hRt hN hWB H hb hs hfar hL h1 (by omega)
    · exact stp_arr_bad hRt hN hWB H hb hs hfar hL (by omega)
  · by_cases hr : 2 ≤ bud - sp
    · exact stp_rec_ok hRt hN hWB H hb hs hfar hL hr
    · exact stp_rec_no hRt hN hWB H hb hs hfar hL (by omega)
  · by_cases h0 : 0 ≤ p.n
    · by_cases h1 : l.length ≤ 4096
      · by_cases hr : 2 + (l.length : Int) ≤ bud - sp
        · exact stp_bnd_ok hRt hN hWB H hb hs hfar hL h0 h1 hr
        · exact stp_bnd_no hRt hN hWB H hb hs hfar hL h0 h1 (by omega)
      · exact stp_bnd_bad1 hRt hN hWB H hb hs hfar hL h0 (by omega)
    · by_cases h1 : l.length ≤ 4096
      · exact stp_bnd_bad2 hRt hN hWB H hb hs hfar hL (by omega) h1
      · exact stp_bnd_bad3 hRt hN hWB H hb hs hfar hL (by omega) (by omega)
  · by_cases h1 : 1 ≤ p.n
    · by_cases h2 : p.n ≤ 64
      · by_cases hr : 2 + p.n ≤ bud - sp
        · exact stp_chn_ok hRt hN hWB H hb hs hfar hL h1 h2 hr
        · exact stp_chn_no hRt hN hWB H hb hs hfar hL h1 h2 (by omega)
      · exact stp_chn_bad2 hRt hN hWB H hb hs hfar hL h1 (by omega)
    · exact stp_chn_bad1 hRt hN hWB H hb hs hfar hL (by omega)
  · by_cases h1 : 0 ≤ p.n
    · by_cases hr : p.n ≤ bud - sp
      · exact stp_spd_ok hRt hN hWB H hb hs hfar hL h1 hr
      · exact stp_spd_no hRt hN hWB H hb hs hfar hL h1 (by omega)
    · exact stp_spd_bad hRt hN hWB H hb hs hfar hL (by omega)
end
end Go.Proofs.Ytkpngfahnpidkaa
