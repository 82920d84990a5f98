/-
  One call of HeapMakes, asked of both.
-/
import Derived.Test.YtkpngfahnpidkaaMTold
import Derived.Test.YtkpngfahnpidkaaMCount
import Derived.Test.YtkpngfahnpidkaaMAsk
import Derived.Test.YtkpngfahnpidkaaMDoc
import Derived.Test.YtkpngfahnpidkaaMObject
import Derived.Test.YtkpngfahnpidkaaMPObj
import Derived.Test.YtkpngfahnpidkaaPStep
namespace Go.Proofs.Ytkpngfahnpidkaa
open Go.RowKit
set_option linter.unusedVariables false
set_option linter.unusedSimpArgs false

/-- An answer. -/
structure SD where
  vk : Int
  vn : Int
  n : Int
  trap : Int
  ok : Bool
  a : AO
def SD.plain (k n : Int) (ok : Bool) : SD := ⟨k, n, 0, 0, ok, AO.zero⟩
def SV.plain (k n : Int) (ok : Bool) : SV := ⟨k, n, 0, 0, ok, 0, none, 0, 0, none, 0, 0, 0, 0, false⟩
theorem saidC_plain (k n : Int) (ok : Bool) : saidC k n ok = saidV (SV.plain k n ok) := rfl
/-- These cells are this answer. -/
def Ans (w w' : World) (s : SD) (x : SV) : Prop := ∃ ia ic ka kc, x = ⟨s.vk, s.vn, s.n, s.trap, s.ok, s.a.k, ia, s.a.its.length, ic, ka, 0, kc, s.a.fn, s.a.cap, s.a.shut⟩ ∧ OutV w w' s.a (.slice ia s.a.its.length ic) (.slice ka 0 kc)
theorem Ans.plain (w w' : World) (k n : Int) (ok : Bool) : Ans w w' (SD.plain k n ok) (SV.plain k n ok) := ⟨none, 0, none, 0, rfl, OutV.nil _ _⟩
theorem Ans.num (w w' : World) (n t : Int) : Ans w w' ⟨0, 0, n, t, false, AO.zero⟩ (SV.num n t) := ⟨none, 0, none, 0, rfl, OutV.nil _ _⟩
theorem Ans.fr {S : Nat → Prop} {w w1 w2 : World} {s : SD} {x : SV} (h : Ans w w1 s x) (f : Fr S w1 w2) (hS : ∀ q, S q → q < w.heap.size) : Ans w w2 s x := by
  obtain ⟨ia, ic, ka, kc, e, o⟩ := h
  exact ⟨ia, ic, ka, kc, e, o.fr f hS⟩
/-- Behind a call of the program's. -/
def NowA (w : World) (h : Nat) (bud sp : Int) (ov : Value) (os : List OD) (w' : World) (sp' : Int) (as' : List AO) : Prop := ∃ os', Now w h bud sp ov os w' sp' os' ∧ os'.map OD.ao = as'
section
variable {w w1 w' w2 : World} {h : Nat} {bud sp sp' : Int} {ov : Value} {os : List OD} {as' : List AO}
theorem NowA.fr (N : NowA w h bud sp ov os w' sp' as') : Fr (Fts h ov os) w w' := by
  obtain ⟨os', ⟨ov', _, f, _⟩, _⟩ := N
  exact f
theorem NowA.puts (hB : Below w.heap.size w w1) (hlt : ∀ k, Fts h ov os k → k < w.heap.size) (N : NowA w1 h bud sp ov os w' sp' as') {S : Nat → Prop} (hS : ∀ q, S q → w.heap.size ≤ q ∧ q < w1.heap.size) (f : Fr S w' w2) : NowA w h bud sp ov os w2 sp' as' := by
  obtain ⟨os', N, e⟩ := N
  exact ⟨os', N.puts hB hlt hS f, e⟩
theorem NowA.same (H : Hp w h bud sp ov os) (f : Below w.heap.size w w') : NowA w h bud sp ov os w' sp (os.map OD.ao) := ⟨os, Now.same H f, rfl⟩
end
theorem b3 (w : World) (x y z : Obj) : Below w.heap.size w (((w.alloc x).alloc y).alloc z) := (((Below.refl _ _).alloc (Nat.le_refl _) _).alloc (by simp) _).alloc (by simp; omega) _
/-- What the document tells. -/
def Tl (w : World) (r : Nat) (bud sp : Int) (rv : Value) (ds : List RD) (c : Int) (p : OpD) (s : SD) (sp' : Int) (as' : List AO) : Prop :=
  Calls Try.prog 29 #[.pointer (some ⟨r, 0, none⟩), .int .i64 c, .agg (opC p)] w fun e w' => ∃ x, e = .returned (.agg (saidV x)) ∧ Ans w w' s x ∧ RNow w r bud sp rv ds w' sp' as'
/-- What the program answers. -/
def Ak (w : World) (h : Nat) (bud sp : Int) (ov : Value) (os : List OD) (c : Int) (p : OpD) (s : SD) (sp' : Int) (as' : List AO) : Prop :=
  Calls Try.prog 24 #[.pointer (some ⟨h, 0, none⟩), .int .i64 c, .agg (opC p)] w fun e w' => ∃ x, e = .returned (.tuple #[.agg (saidV x), .bool true]) ∧ Ans w w' s x ∧ NowA w h bud sp ov os w' sp' as'
section
variable {w : World} {r : Nat} {bud sp : Int} {rv : Value} {ds : List RD} {p : OpD} {l : List (Int × Int)}
theorem tl_spend_ok (hRt : RtV w p.lv l) (hN : l.length ≤ 8796093021952) (H : Rh w r bud sp rv ds) (hb : 0 ≤ bud ∧ bud < 9223372036854775808) (hs : 0 ≤ sp ∧ sp < 9223372036854775808) (hr : room bud sp p.n = true) : Tl w r bud sp rv ds 0 p (SD.plain 0 0 true) (sp + p.n) (ds.map (·.a)) := by
  obtain ⟨a, cc, elv, hrest⟩ := hRt
  have hRt : RtV w p.lv l := ⟨a, cc, elv, hrest⟩
  rw [elv] at hRt
  have hlt := H.lt
  unfold Tl
  refine (tell_spend p elv (ok := true) (S := fun _ => True) (P := fun w' => RNow _ r bud sp rv ds w' (sp + p.n) (ds.map (·.a))) (Q := fun w' => RNow w r bud sp rv ds w' (sp + p.n) (ds.map (·.a))) (F := Rfs r rv ds) hlt H.rlt ((rspend_any (H.below (b3 _ _ _ _)) hb hs p.n).mono fun e w1 ⟨he, N⟩ => ⟨by rw [he, hr], by rw [hr] at N; exact N⟩) (fun w' N => N.fr) (fun w3 w' N f => N.puts (b3 _ _ _ _) hlt (fun q e => by simp; omega) f)).mono fun e w' ⟨he, N⟩ => ⟨_, ?_, Ans.plain _ _ _ _ _, N⟩
  rw [he, saidC_plain]
theorem tl_spend_no (hRt : RtV w p.lv l) (hN : l.length ≤ 8796093021952) (H : Rh w r bud sp rv ds) (hb : 0 ≤ bud ∧ bud < 9223372036854775808) (hs : 0 ≤ sp ∧ sp < 9223372036854775808) (hr : room bud sp p.n = false) : Tl w r bud sp rv ds 0 p (SD.plain 0 0 false) sp (ds.map (·.a)) := by
  obtain ⟨a, cc, elv, hrest⟩ := hRt
  have hRt : RtV w p.lv l := ⟨a, cc, elv, hrest⟩
  rw [elv] at hRt
  have hlt := H.lt
  unfold Tl
  refine (tell_spend p elv (ok := false) (S := fun _ => True) (P := fun w' => RNow _ r bud sp rv ds w' sp (ds.map (·.a))) (Q := fun w' => RNow w r bud sp rv ds w' sp (ds.map (·.a))) (F := Rfs r rv ds) hlt H.rlt ((rspend_any (H.below (b3 _ _ _ _)) hb hs p.n).mono fun e w1 ⟨he, N⟩ => ⟨by rw [he, hr], by rw [hr] at N; exact N⟩) (fun w' N => N.fr) (fun w3 w' N f => N.puts (b3 _ _ _ _) hlt (fun q e => by simp; omega) f)).mono fun e w' ⟨he, N⟩ => ⟨_, ?_, Ans.plain _ _ _ _ _, N⟩
  rw [he, saidC_plain]
theorem tl_arr_ok (hRt : RtV w p.lv l) (hN : l.length ≤ 8796093021952) (H : Rh w r bud sp rv ds) (hb : 0 ≤ bud ∧ bud < 9223372036854775808) (hs : 0 ≤ sp ∧ sp < 9223372036854775808) (h4 : l.length ≤ 4096) (hr : room bud sp (2 + (l.length : Int)) = true) (hL : ds.length ≤ 1700000000000) : Tl w r bud sp rv ds 3 p (SD.plain 6 (ds.length : Int) true) (sp + (2 + (l.length : Int))) (ds.map (·.a) ++ [⟨6, l, [], 0, 0, false⟩]) := by
  obtain ⟨a, cc, elv, hrest⟩ := hRt
  have hRt : RtV w p.lv l := ⟨a, cc, elv, hrest⟩
  rw [elv] at hRt
  have hlt := H.lt
  unfold Tl
  refine (tell_array p elv (ok := true) (S := fun _ => True) (P := fun w' => RNow _ r bud sp rv ds w' (sp + (2 + (l.length : Int))) (ds.map (·.a) ++ [⟨6, l, [], 0, 0, false⟩])) (Q := fun w' => RNow w r bud sp rv ds w' (sp + (2 + (l.length : Int))) (ds.map (·.a) ++ [⟨6, l, [], 0, 0, false⟩])) (F := Rfs r rv ds) hlt H.rlt (rarr_ok (H.below (b3 _ _ _ _)) hb hs (hRt.below (b3 _ _ _ _)) h4 hr hL) (fun w' N => N.fr) (fun w3 w' N f => N.puts (b3 _ _ _ _) hlt (fun q e => by simp; omega) f)).mono fun e w' ⟨he, N⟩ => ⟨_, ?_, Ans.plain _ _ _ _ _, N⟩
  rw [he, saidC_plain]
theorem tl_arr_no (hRt : RtV w p.lv l) (hN : l.length ≤ 8796093021952) (H : Rh w r bud sp rv ds) (hb : 0 ≤ bud ∧ bud < 9223372036854775808) (hs : 0 ≤ sp ∧ sp < 9223372036854775808) (h4 : l.length ≤ 4096) (hr : room bud sp (2 + (l.length : Int)) = false) : Tl w r bud sp rv ds 3 p (SD.plain 0 0 false) sp (ds.map (·.a)) := by
  obtain ⟨a, cc, elv, hrest⟩ := hRt
  have hRt : RtV w p.lv l := ⟨a, cc, elv, hrest⟩
  rw [elv] at hRt
  have hlt := H.lt
  unfold Tl
  refine (tell_array p elv (ok := false) (S := fun _ => True) (P := fun w' => RNow _ r bud sp rv ds w' sp (ds.map (·.a))) (Q := fun w' => RNow w r bud sp rv ds w' sp (ds.map (·.a))) (F := Rfs r rv ds) hlt H.rlt (rarr_no (H.below (b3 _ _ _ _)) hb hs (hRt.below (b3 _ _ _ _)) h4 hr) (fun w' N => N.fr) (fun w3 w' N f => N.puts (b3 _ _ _ _) hlt (fun q e => by simp; omega) f)).mono fun e w' ⟨he, N⟩ => ⟨_, ?_, Ans.plain _ _ _ _ _, N⟩
  rw [he, saidC_plain]
theorem tl_arr_bad (hRt : RtV w p.lv l) (hN : l.length ≤ 8796093021952) (H : Rh w r bud sp rv ds) (hb : 0 ≤ bud ∧ bud < 9223372036854775808) (hs : 0 ≤ sp ∧ sp < 9223372036854775808) (h4 : 4096 < l.length) : Tl w r bud sp rv ds 3 p (SD.plain 0 0 false) sp (ds.map (·.a)) := by
  obtain ⟨a, cc, elv, hrest⟩ := hRt
  have hRt : RtV w p.lv l := ⟨a, cc, elv, hrest⟩
  rw [elv] at hRt
  have hlt := H.lt
  unfold Tl
  refine (tell_array p elv (ok := false) (S := fun _ => True) (P := fun w' => RNow _ r bud sp rv ds w' sp (ds.map (·.a))) (Q := fun w' => RNow w r bud sp rv ds w' sp (ds.map (·.a))) (F := Rfs r rv ds) hlt H.rlt (rarr_bad1 (H.below (b3 _ _ _ _)) hb hs (hRt.below (b3 _ _ _ _)) hN h4) (fun w' N => N.fr) (fun w3 w' N f => N.puts (b3 _ _ _ _) hlt (fun q e => by simp; omega) f)).mono fun e w' ⟨he, N⟩ => ⟨_, ?_, Ans.plain _ _ _ _ _, N⟩
  rw [he, saidC_plain]
theorem tl_bnd_ok (hRt : RtV w p.lv l) (hN : l.length ≤ 8796093021952) (H : Rh w r bud sp rv ds) (hb : 0 ≤ bud ∧ bud < 9223372036854775808) (hs : 0 ≤ sp ∧ sp < 9223372036854775808) (h0 : 0 ≤ p.n) (h4 : l.length ≤ 4096) (hr : room bud sp (2 + (l.length : Int)) = true) (hL : ds.length ≤ 1700000000000) : Tl w r bud sp rv ds 5 p (SD.plain 8 (ds.length : Int) true) (sp + (2 + (l.length : Int))) (ds.map (·.a) ++ [⟨8, l, [], p.n, 0, false⟩]) := by
  obtain ⟨a, cc, elv, hrest⟩ := hRt
  have hRt : RtV w p.lv l := ⟨a, cc, elv, hrest⟩
  rw [elv] at hRt
  have hlt := H.lt
  unfold Tl
  refine (tell_bound p elv (ok := true) (S := fun _ => True) (P := fun w' => RNow _ r bud sp rv ds w' (sp + (2 + (l.length : Int))) (ds.map (·.a) ++ [⟨8, l, [], p.n, 0, false⟩])) (Q := fun w' => RNow w r bud sp rv ds w' (sp + (2 + (l.length : Int))) (ds.map (·.a) ++ [⟨8, l, [], p.n, 0, false⟩])) (F := Rfs r rv ds) hlt H.rlt (rbnd_ok (H.below (b3 _ _ _ _)) hb hs (hRt.below (b3 _ _ _ _)) h4 h0 hr hL) (fun w' N => N.fr) (fun w3 w' N f => N.puts (b3 _ _ _ _) hlt (fun q e => by simp; omega) f)).mono fun e w' ⟨he, N⟩ => ⟨_, ?_, Ans.plain _ _ _ _ _, N⟩
  rw [he, saidC_plain]
theorem tl_bnd_no (hRt : RtV w p.lv l) (hN : l.length ≤ 8796093021952) (H : Rh w r bud sp rv ds) (hb : 0 ≤ bud ∧ bud < 9223372036854775808) (hs : 0 ≤ sp ∧ sp < 9223372036854775808) (h0 : 0 ≤ p.n) (h4 : l.length ≤ 4096) (hr : room bud sp (2 + (l.length : Int)) = false) : Tl w r bud sp rv ds 5 p (SD.plain 0 0 false) sp (ds.map (·.a)) := by
  obtain ⟨a, cc, elv, hrest⟩ := hRt
  have hRt : RtV w p.lv l := ⟨a, cc, elv, hrest⟩
  rw [elv] at hRt
  have hlt := H.lt
  unfold Tl
  refine (tell_bound p elv (ok := false) (S := fun _ => True) (P := fun w' => RNow _ r bud sp rv ds w' sp (ds.map (·.a))) (Q := fun w' => RNow w r bud sp rv ds w' sp (ds.map (·.a))) (F := Rfs r rv ds) hlt H.rlt (rbnd_no (H.below (b3 _ _ _ _)) hb hs (hRt.below (b3 _ _ _ _)) h4 h0 hr) (fun w' N => N.fr) (fun w3 w' N f => N.puts (b3 _ _ _ _) hlt (fun q e => by simp; omega) f)).mono fun e w' ⟨he, N⟩ => ⟨_, ?_, Ans.plain _ _ _ _ _, N⟩
  rw [he, saidC_plain]
theorem tl_bnd_bad1 (hRt : RtV w p.lv l) (hN : l.length ≤ 8796093021952) (H : Rh w r bud sp rv ds) (hb : 0 ≤ bud ∧ bud < 9223372036854775808) (hs : 0 ≤ sp ∧ sp < 9223372036854775808) (h4 : 4096 < l.length) : Tl w r bud sp rv ds 5 p (SD.plain 0 0 false) sp (ds.map (·.a)) := by
  obtain ⟨a, cc, elv, hrest⟩ := hRt
  have hRt : RtV w p.lv l := ⟨a, cc, elv, hrest⟩
  rw [elv] at hRt
  have hlt := H.lt
  unfold Tl
  refine (tell_bound p elv (ok := false) (S := fun _ => True) (P := fun w' => RNow _ r bud sp rv ds w' sp (ds.map (·.a))) (Q := fun w' => RNow w r bud sp rv ds w' sp (ds.map (·.a))) (F := Rfs r rv ds) hlt H.rlt (rbnd_bad1 (H.below (b3 _ _ _ _)) hb hs (hRt.below (b3 _ _ _ _)) hN h4) (fun w' N => N.fr) (fun w3 w' N f => N.puts (b3 _ _ _ _) hlt (fun q e => by simp; omega) f)).mono fun e w' ⟨he, N⟩ => ⟨_, ?_, Ans.plain _ _ _ _ _, N⟩
  rw [he, saidC_plain]
theorem tl_bnd_bad2 (hRt : RtV w p.lv l) (hN : l.length ≤ 8796093021952) (H : Rh w r bud sp rv ds) (hb : 0 ≤ bud ∧ bud < 9223372036854775808) (hs : 0 ≤ sp ∧ sp < 9223372036854775808) (h0 : p.n < 0) (h4 : l.length ≤ 4096) : Tl w r bud sp rv ds 5 p (SD.plain 0 0 false) sp (ds.map (·.a)) := by
  obtain ⟨a, cc, elv, hrest⟩ := hRt
  have hRt : RtV w p.lv l := ⟨a, cc, elv, hrest⟩
  rw [elv] at hRt
  have hlt := H.lt
  unfold Tl
  refine (tell_bound p elv (ok := false) (S := fun _ => True) (P := fun w' => RNow _ r bud sp rv ds w' sp (ds.map (·.a))) (Q := fun w' => RNow w r bud sp rv ds w' sp (ds.map (·.a))) (F := Rfs r rv ds) hlt H.rlt (rbnd_bad2 (H.below (b3 _ _ _ _)) hb hs (hRt.below (b3 _ _ _ _)) hN h0 h4) (fun w' N => N.fr) (fun w3 w' N f => N.puts (b3 _ _ _ _) hlt (fun q e => by simp; omega) f)).mono fun e w' ⟨he, N⟩ => ⟨_, ?_, Ans.plain _ _ _ _ _, N⟩
  rw [he, saidC_plain]
theorem tl_rec_ok (hRt : RtV w p.lv l) (hN : l.length ≤ 8796093021952) (H : Rh w r bud sp rv ds) (hb : 0 ≤ bud ∧ bud < 9223372036854775808) (hs : 0 ≤ sp ∧ sp < 9223372036854775808) (hr : room bud sp 2 = true) (hL : ds.length ≤ 1700000000000) : Tl w r bud sp rv ds 4 p (SD.plain 7 (ds.length : Int) true) (sp + 2) (ds.map (·.a) ++ [⟨7, [], [], 0, 0, false⟩]) := by
  obtain ⟨a, cc, elv, hrest⟩ := hRt
  have hRt : RtV w p.lv l := ⟨a, cc, elv, hrest⟩
  rw [elv] at hRt
  have hlt := H.lt
  unfold Tl
  refine (tell_record p elv (ok := true) (S := fun _ => True) (P := fun w' => RNow _ r bud sp rv ds w' (sp + 2) (ds.map (·.a) ++ [⟨7, [], [], 0, 0, false⟩])) (Q := fun w' => RNow w r bud sp rv ds w' (sp + 2) (ds.map (·.a) ++ [⟨7, [], [], 0, 0, false⟩])) (F := Rfs r rv ds) hlt H.rlt (rrec_ok (H.below (b3 _ _ _ _)) hb hs hr hL) (fun w' N => N.fr) (fun w3 w' N f => N.puts (b3 _ _ _ _) hlt (fun q e => by simp; omega) f)).mono fun e w' ⟨he, N⟩ => ⟨_, ?_, Ans.plain _ _ _ _ _, N⟩
  rw [he, saidC_plain]
theorem tl_rec_no (hRt : RtV w p.lv l) (hN : l.length ≤ 8796093021952) (H : Rh w r bud sp rv ds) (hb : 0 ≤ bud ∧ bud < 9223372036854775808) (hs : 0 ≤ sp ∧ sp < 9223372036854775808) (hr : room bud sp 2 = false) : Tl w r bud sp rv ds 4 p (SD.plain 0 0 false) sp (ds.map (·.a)) := by
  obtain ⟨a, cc, elv, hrest⟩ := hRt
  have hRt : RtV w p.lv l := ⟨a, cc, elv, hrest⟩
  rw [elv] at hRt
  have hlt := H.lt
  unfold Tl
  refine (tell_record p elv (ok := false) (S := fun _ => True) (P := fun w' => RNow _ r bud sp rv ds w' sp (ds.map (·.a))) (Q := fun w' => RNow w r bud sp rv ds w' sp (ds.map (·.a))) (F := Rfs r rv ds) hlt H.rlt (rrec_no (H.below (b3 _ _ _ _)) hb hs hr) (fun w' N => N.fr) (fun w3 w' N f => N.puts (b3 _ _ _ _) hlt (fun q e => by simp; omega) f)).mono fun e w' ⟨he, N⟩ => ⟨_, ?_, Ans.plain _ _ _ _ _, N⟩
  rw [he, saidC_plain]
theorem tl_chn_ok (hRt : RtV w p.lv l) (hN : l.length ≤ 8796093021952) (H : Rh w r bud sp rv ds) (hb : 0 ≤ bud ∧ bud < 9223372036854775808) (hs : 0 ≤ sp ∧ sp < 9223372036854775808) (h1 : 1 ≤ p.n) (h2 : p.n ≤ 64) (hr : room bud sp (2 + p.n) = true) (hL : ds.length ≤ 1700000000000) : Tl w r bud sp rv ds 6 p (SD.plain 9 (ds.length : Int) true) (sp + (2 + p.n)) (ds.map (·.a) ++ [⟨9, [], [], 0, p.n, false⟩]) := by
  obtain ⟨a, cc, elv, hrest⟩ := hRt
  have hRt : RtV w p.lv l := ⟨a, cc, elv, hrest⟩
  rw [elv] at hRt
  have hlt := H.lt
  unfold Tl
  refine (tell_chan p elv (ok := true) (S := fun _ => True) (P := fun w' => RNow _ r bud sp rv ds w' (sp + (2 + p.n)) (ds.map (·.a) ++ [⟨9, [], [], 0, p.n, false⟩])) (Q := fun w' => RNow w r bud sp rv ds w' (sp + (2 + p.n)) (ds.map (·.a) ++ [⟨9, [], [], 0, p.n, false⟩])) (F := Rfs r rv ds) hlt H.rlt (rchn_ok (H.below (b3 _ _ _ _)) hb hs h1 h2 hr hL) (fun w' N => N.fr) (fun w3 w' N f => N.puts (b3 _ _ _ _) hlt (fun q e => by simp; omega) f)).mono fun e w' ⟨he, N⟩ => ⟨_, ?_, Ans.plain _ _ _ _ _, N⟩
  rw [he, saidC_plain]
theorem tl_chn_no (hRt : RtV w p.lv l) (hN : l.length ≤ 8796093021952) (H : Rh w r bud sp rv ds) (hb : 0 ≤ bud ∧ bud < 9223372036854775808) (hs : 0 ≤ sp ∧ sp < 9223372036854775808) (h1 : 1 ≤ p.n) (h2 : p.n ≤ 64) (hr : room bud sp (2 + p.n) = false) : Tl w r bud sp rv ds 6 p (SD.plain 0 0 false) sp (ds.map (·.a)) := by
  obtain ⟨a, cc, elv, hrest⟩ := hRt
  have hRt : RtV w p.lv l := ⟨a, cc, elv, hrest⟩
  rw [elv] at hRt
  have hlt := H.lt
  unfold Tl
  refine (tell_chan p elv (ok := false) (S := fun _ => True) (P := fun w' => RNow _ r bud sp rv ds w' sp (ds.map (·.a))) (Q := fun w' => RNow w r bud sp rv ds w' sp (ds.map (·.a))) (F := Rfs r rv ds) hlt H.rlt (rchn_no (H.below (b3 _ _ _ _)) hb hs h1 h2 hr) (fun w' N => N.fr) (fun w3 w' N f => N.puts (b3 _ _ _ _) hlt (fun q e => by simp; omega) f)).mono fun e w' ⟨he, N⟩ => ⟨_, ?_, Ans.plain _ _ _ _ _, N⟩
  rw [he, saidC_plain]
theorem tl_chn_bad1 (hRt : RtV w p.lv l) (hN : l.length ≤ 8796093021952) (H : Rh w r bud sp rv ds) (hb : 0 ≤ bud ∧ bud < 9223372036854775808) (hs : 0 ≤ sp ∧ sp < 9223372036854775808) (h1 : p.n < 1) : Tl w r bud sp rv ds 6 p (SD.plain 0 0 false) sp (ds.map (·.a)) := by
  obtain ⟨a, cc, elv, hrest⟩ := hRt
  have hRt : RtV w p.lv l := ⟨a, cc, elv, hrest⟩
  rw [elv] at hRt
  have hlt := H.lt
  unfold Tl
  refine (tell_chan p elv (ok := false) (S := fun _ => True) (P := fun w' => RNow _ r bud sp rv ds w' sp (ds.map (·.a))) (Q := fun w' => RNow w r bud sp rv ds w' sp (ds.map (·.a))) (F := Rfs r rv ds) hlt H.rlt (rchn_bad1 (H.below (b3 _ _ _ _)) hb hs h1) (fun w' N => N.fr) (fun w3 w' N f => N.puts (b3 _ _ _ _) hlt (fun q e => by simp; omega) f)).mono fun e w' ⟨he, N⟩ => ⟨_, ?_, Ans.plain _ _ _ _ _, N⟩
  rw [he, saidC_plain]
theorem tl_chn_bad2 (hRt : RtV w p.lv l) (hN : l.length ≤ 8796093021952) (H : Rh w r bud sp rv ds) (hb : 0 ≤ bud ∧ bud < 9223372036854775808) (hs : 0 ≤ sp ∧ sp < 9223372036854775808) (h1 : 64 < p.n) : Tl w r bud sp rv ds 6 p (SD.plain 0 0 false) sp (ds.map (·.a)) := by
  obtain ⟨a, cc, elv, hrest⟩ := hRt
  have hRt : RtV w p.lv l := ⟨a, cc, elv, hrest⟩
  rw [elv] at hRt
  have hlt := H.lt
  unfold Tl
  refine (tell_chan p elv (ok := false) (S := fun _ => True) (P := fun w' => RNow _ r bud sp rv ds w' sp (ds.map (·.a))) (Q := fun w' => RNow w r bud sp rv ds w' sp (ds.map (·.a))) (F := Rfs r rv ds) hlt H.rlt (rchn_bad2 (H.below (b3 _ _ _ _)) hb hs h1) (fun w' N => N.fr) (fun w3 w' N f => N.puts (b3 _ _ _ _) hlt (fun q e => by simp; omega) f)).mono fun e w' ⟨he, N⟩ => ⟨_, ?_, Ans.plain _ _ _ _ _, N⟩
  rw [he, saidC_plain]
theorem tl_counts (hRt : RtV w p.lv l) (hN : l.length ≤ 8796093021952) (H : Rh w r bud sp rv ds) (hb : 0 ≤ bud ∧ bud < 9223372036854775808) (hs : 0 ≤ sp ∧ sp < 9223372036854775808) : Tl w r bud sp rv ds 1 p ⟨0, 0, (ds.length : Int), sp, false, AO.zero⟩ sp (ds.map (·.a)) := by
  obtain ⟨a, cc, elv, hrest⟩ := hRt
  unfold Tl
  exact (tell_counts H p elv).mono fun e w' ⟨he, b⟩ => ⟨_, he, Ans.num _ _ _ _, RNow.same H b⟩
theorem tl_obj_hit (hRt : RtV w p.lv l) (hN : l.length ≤ 8796093021952) (H : Rh w r bud sp rv ds) (hb : 0 ≤ bud ∧ bud < 9223372036854775808) (hs : 0 ≤ sp ∧ sp < 9223372036854775808) {i : Nat} (hp : p.n = (i : Int)) {d : RD} (hd : ds[i]? = some d) (hk : d.a.keys = []) (h4 : d.a.its.length ≤ 4096) (hL : ds.length ≤ 1700000000000) : Tl w r bud sp rv ds 2 p ⟨0, 0, 0, 0, true, d.a⟩ sp (ds.map (·.a)) := by
  obtain ⟨a, cc, elv, hrest⟩ := hRt
  have hlt := H.lt
  unfold Tl
  refine (tell_object p elv (P := fun y w' => y.ok = true ∧ y.k = d.a.k ∧ y.fn = d.a.fn ∧ y.cap = d.a.cap ∧ y.shut = d.a.shut ∧ y.il = d.a.its.length ∧ y.ka = none ∧ y.kl = 0 ∧ y.kc = 0 ∧ Gw (((w.alloc (.cells #[.int .i64 p.on, .int .i64 p.call, .int .i64 p.vk, .int .i64 p.vn, .int .i64 p.xk, .int .i64 p.xn, .int .i64 p.i, .int .i64 p.n, .slice a l.length cc] 38)).alloc (.cells (saidC 0 0 false) 58)).alloc (.cells (saidC 0 0 false) 58)) d.a.its (.slice y.ia y.il y.ic) w') (Q := fun y w' => Ans w w' ⟨0, 0, 0, 0, true, d.a⟩ y.sv ∧ RNow w r bud sp rv ds w' sp (ds.map (·.a))) (F := Rfs r rv ds) hlt H.rlt ?_ ?_ ?_).mono fun e w' ⟨y, he, q⟩ => ⟨_, he, q⟩
  · rw [hp]
    refine (robj_hit (H.below (b3 _ _ _ _)) hd hk (by omega) (by omega)).mono fun e w' ⟨v1, he, g⟩ => ?_
    obtain ⟨va, vc, ve, _⟩ := g.1.shape
    rw [ve] at he g
    exact ⟨⟨d.a.k, va, d.a.its.length, vc, none, 0, 0, d.a.fn, d.a.cap, d.a.shut, true⟩, he, rfl, rfl, rfl, rfl, rfl, rfl, rfl, rfl, rfl, g⟩
  · rintro y w' ⟨_, _, _, _, _, _, _, _, _, g⟩
    exact Fr.of_below g.2.1
  · rintro ⟨xk, xia, xil, xic, xka, xkl, xkc, xf, xc, xs, xo⟩ w3 w' ⟨q1, q2, q3, q4, q5, q6, q7, q8, q9, g⟩ f
    simp only at q1 q2 q3 q4 q5 q6 q7 q8 q9 g
    subst q1 q2 q3 q4 q5 q6 q7 q8 q9
    have bz := (b3 w (.cells #[.int .i64 p.on, .int .i64 p.call, .int .i64 p.vk, .int .i64 p.vn, .int .i64 p.xk, .int .i64 p.xn, .int .i64 p.i, .int .i64 p.n, .slice a l.length cc] 38) (.cells (saidC 0 0 false) 58) (.cells (saidC 0 0 false) 58)).size
    have g3 : ∀ k, (Value.slice xia d.a.its.length xic).ownBlock = some k → w.heap.size + 3 ≤ k := fun k hk => by have := g.2.2 k hk; simp at this; omega
    refine ⟨⟨xia, xic, none, 0, rfl, g.1.fr f (fun k hk e => by have := g3 k hk; omega), by rw [hk]; exact Ro.nil _ _, ?_⟩, RNow.puts (b3 _ _ _ _) hlt (RNow.same (H.below (b3 _ _ _ _)) g.2.1) (fun q e => by simp; omega) f⟩
    rintro k (e | e)
    · have := g3 k e; omega
    · simp [Value.ownBlock] at e
theorem tl_obj_miss (hRt : RtV w p.lv l) (hN : l.length ≤ 8796093021952) (H : Rh w r bud sp rv ds) (hb : 0 ≤ bud ∧ bud < 9223372036854775808) (hs : 0 ≤ sp ∧ sp < 9223372036854775808) (hn : p.n < 0 ∨ (ds.length : Int) ≤ p.n) (hL : ds.length ≤ 1700000000000) : Tl w r bud sp rv ds 2 p (SD.plain 0 0 false) sp (ds.map (·.a)) := by
  obtain ⟨a, cc, elv, hrest⟩ := hRt
  have hlt := H.lt
  unfold Tl
  refine (tell_object p elv (P := fun y w' => y = ⟨0, none, 0, 0, none, 0, 0, 0, 0, false, false⟩ ∧ Below (((w.alloc (.cells #[.int .i64 p.on, .int .i64 p.call, .int .i64 p.vk, .int .i64 p.vn, .int .i64 p.xk, .int .i64 p.xn, .int .i64 p.i, .int .i64 p.n, .slice a l.length cc] 38)).alloc (.cells (saidC 0 0 false) 58)).alloc (.cells (saidC 0 0 false) 58)).heap.size (((w.alloc (.cells #[.int .i64 p.on, .int .i64 p.call, .int .i64 p.vk, .int .i64 p.vn, .int .i64 p.xk, .int .i64 p.xn, .int .i64 p.i, .int .i64 p.n, .slice a l.length cc] 38)).alloc (.cells (saidC 0 0 false) 58)).alloc (.cells (saidC 0 0 false) 58)) w') (Q := fun y w' => y = ⟨0, none, 0, 0, none, 0, 0, 0, 0, false, false⟩ ∧ RNow w r bud sp rv ds w' sp (ds.map (·.a))) (F := Rfs r rv ds) hlt H.rlt ?_ ?_ ?_).mono fun e w' ⟨y, he, ey, q⟩ => ⟨_, he, ?_, q⟩
  · exact (robj_miss (H.below (b3 _ _ _ _)) hn (by omega)).mono fun e w' ⟨he, g⟩ => ⟨_, he, rfl, g⟩
  · rintro y w' ⟨_, g⟩
    exact Fr.of_below g
  · rintro y w3 w' ⟨ey, g⟩ f
    exact ⟨ey, RNow.puts (b3 _ _ _ _) hlt (RNow.same (H.below (b3 _ _ _ _)) g) (fun q e => by simp; omega) f⟩
  · subst ey
    exact Ans.plain _ _ 0 0 false
end
end Go.Proofs.Ytkpngfahnpidkaa
