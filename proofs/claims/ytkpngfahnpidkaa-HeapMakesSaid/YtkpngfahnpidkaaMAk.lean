/-
  One call of HeapMakes: what the program answers.
-/
import Derived.Test.YtkpngfahnpidkaaMTl
namespace Go.Proofs.Ytkpngfahnpidkaa
open Go.RowKit
set_option linter.unusedVariables false
set_option linter.unusedSimpArgs false

section
variable {W w : World} {h : Nat} {bud sp : Int} {ov : Value} {os : List OD} {p : OpD} {l : List (Int × Int)}
theorem ak_arr_ok (hRt : RtV W p.lv l) (hN : l.length ≤ 8796093021952) (hWB : Below W.heap.size W w) (H : Hp w h bud sp ov os) (hb : 0 ≤ bud ∧ bud < 9223372036854775808) (hs : 0 ≤ sp ∧ sp < 9223372036854775808) (hfar : ∀ q, Fts h ov os q → W.heap.size ≤ q) (h1 : l.length ≤ 4096) (hr : 2 + (l.length : Int) ≤ bud - sp) (hL : os.length ≤ 1700000000000) : Ak w h bud sp ov os 3 p (SD.plain 6 (os.length : Int) true) (sp + (2 + (l.length : Int))) (os.map OD.ao ++ [⟨6, l, [], 0, 0, false⟩]) := by
  obtain ⟨la, lc, elv, hrest⟩ := hRt
  have hRt : RtV W p.lv l := ⟨la, lc, elv, hrest⟩
  have hlt := H.lt
  unfold Ak
  refine (ask_array p hRt hWB hN (k := 6) (n := (os.length : Int)) (ok := true) (P := fun w2 w' => NowA w2 h bud sp ov os w' (sp + (2 + (l.length : Int))) (os.map OD.ao ++ [⟨6, l, [], 0, 0, false⟩])) (Q := fun w' => NowA w h bud sp ov os w' (sp + (2 + (l.length : Int))) (os.map OD.ao ++ [⟨6, l, [], 0, 0, false⟩])) (F := Fts h ov os) (fun q e => ⟨hfar q e, hlt q e⟩) H.hlt (fun w2 g off cap b2 hro => ?_) (fun w2 w' N => N.fr) (fun w2 w3 w' b2 N f => N.puts b2 hlt (fun _ e => e) f)).mono fun e w' ⟨he, N⟩ => ⟨_, by rw [he, saidC_plain], Ans.plain _ _ _ _ _, N⟩
  have H2 := H.below b2
  refine (array_ok H2 hb hs hro h1 hr (by omega)).mono fun e w' hh => ?_
  obtain ⟨rfl, o, o1, o2, o3, o4, o5, N⟩ := hh
  exact ⟨rfl, _, N, by simp [OD.ao, o1, o2, o3, o4, o5]⟩
theorem ak_arr_no (hRt : RtV W p.lv l) (hN : l.length ≤ 8796093021952) (hWB : Below W.heap.size W w) (H : Hp w h bud sp ov os) (hb : 0 ≤ bud ∧ bud < 9223372036854775808) (hs : 0 ≤ sp ∧ sp < 9223372036854775808) (hfar : ∀ q, Fts h ov os q → W.heap.size ≤ q) (h1 : l.length ≤ 4096) (hr : bud - sp < 2 + (l.length : Int)) : Ak w h bud sp ov os 3 p (SD.plain 0 0 false) sp (os.map OD.ao) := by
  obtain ⟨la, lc, elv, hrest⟩ := hRt
  have hRt : RtV W p.lv l := ⟨la, lc, elv, hrest⟩
  have hlt := H.lt
  unfold Ak
  refine (ask_array p hRt hWB hN (k := 0) (n := 0) (ok := false) (P := fun w2 w' => NowA w2 h bud sp ov os w' sp (os.map OD.ao)) (Q := fun w' => NowA w h bud sp ov os w' sp (os.map OD.ao)) (F := Fts h ov os) (fun q e => ⟨hfar q e, hlt q e⟩) H.hlt (fun w2 g off cap b2 hro => ?_) (fun w2 w' N => N.fr) (fun w2 w3 w' b2 N f => N.puts b2 hlt (fun _ e => e) f)).mono fun e w' ⟨he, N⟩ => ⟨_, by rw [he, saidC_plain], Ans.plain _ _ _ _ _, N⟩
  have H2 := H.below b2
  refine (array_no H2 hb hs hro h1 hr).mono fun e w' hh => ?_
  obtain ⟨rfl, b3⟩ := hh
  exact ⟨rfl, NowA.same H2 b3⟩
theorem ak_arr_bad (hRt : RtV W p.lv l) (hN : l.length ≤ 8796093021952) (hWB : Below W.heap.size W w) (H : Hp w h bud sp ov os) (hb : 0 ≤ bud ∧ bud < 9223372036854775808) (hs : 0 ≤ sp ∧ sp < 9223372036854775808) (hfar : ∀ q, Fts h ov os q → W.heap.size ≤ q) (h1 : 4096 < l.length) : Ak w h bud sp ov os 3 p (SD.plain 0 0 false) sp (os.map OD.ao) := by
  obtain ⟨la, lc, elv, hrest⟩ := hRt
  have hRt : RtV W p.lv l := ⟨la, lc, elv, hrest⟩
  have hlt := H.lt
  unfold Ak
  refine (ask_array p hRt hWB hN (k := 0) (n := 0) (ok := false) (P := fun w2 w' => NowA w2 h bud sp ov os w' sp (os.map OD.ao)) (Q := fun w' => NowA w h bud sp ov os w' sp (os.map OD.ao)) (F := Fts h ov os) (fun q e => ⟨hfar q e, hlt q e⟩) H.hlt (fun w2 g off cap b2 hro => ?_) (fun w2 w' N => N.fr) (fun w2 w3 w' b2 N f => N.puts b2 hlt (fun _ e => e) f)).mono fun e w' ⟨he, N⟩ => ⟨_, by rw [he, saidC_plain], Ans.plain _ _ _ _ _, N⟩
  have H2 := H.below b2
  refine (array_bad h1).mono fun e w' hh => ?_
  obtain ⟨rfl, b3⟩ := hh
  exact ⟨rfl, NowA.same H2 b3⟩
theorem ak_bnd_ok (hRt : RtV W p.lv l) (hN : l.length ≤ 8796093021952) (hWB : Below W.heap.size W w) (H : Hp w h bud sp ov os) (hb : 0 ≤ bud ∧ bud < 9223372036854775808) (hs : 0 ≤ sp ∧ sp < 9223372036854775808) (hfar : ∀ q, Fts h ov os q → W.heap.size ≤ q) (h0 : 0 ≤ p.n) (h1 : l.length ≤ 4096) (hr : 2 + (l.length : Int) ≤ bud - sp) (hL : os.length ≤ 1700000000000) : Ak w h bud sp ov os 5 p (SD.plain 8 (os.length : Int) true) (sp + (2 + (l.length : Int))) (os.map OD.ao ++ [⟨8, l, [], p.n, 0, false⟩]) := by
  obtain ⟨la, lc, elv, hrest⟩ := hRt
  have hRt : RtV W p.lv l := ⟨la, lc, elv, hrest⟩
  have hlt := H.lt
  unfold Ak
  refine (ask_bound p hRt hWB hN (k := 8) (n := (os.length : Int)) (ok := true) (P := fun w2 w' => NowA w2 h bud sp ov os w' (sp + (2 + (l.length : Int))) (os.map OD.ao ++ [⟨8, l, [], p.n, 0, false⟩])) (Q := fun w' => NowA w h bud sp ov os w' (sp + (2 + (l.length : Int))) (os.map OD.ao ++ [⟨8, l, [], p.n, 0, false⟩])) (F := Fts h ov os) (fun q e => ⟨hfar q e, hlt q e⟩) H.hlt (fun w2 g off cap b2 hro => ?_) (fun w2 w' N => N.fr) (fun w2 w3 w' b2 N f => N.puts b2 hlt (fun _ e => e) f)).mono fun e w' ⟨he, N⟩ => ⟨_, by rw [he, saidC_plain], Ans.plain _ _ _ _ _, N⟩
  have H2 := H.below b2
  refine (bound_ok H2 hb hs hro h1 h0 hr (by omega)).mono fun e w' hh => ?_
  obtain ⟨rfl, o, o1, o2, o3, o4, o5, N⟩ := hh
  exact ⟨rfl, _, N, by simp [OD.ao, o1, o2, o3, o4, o5]⟩
theorem ak_bnd_no (hRt : RtV W p.lv l) (hN : l.length ≤ 8796093021952) (hWB : Below W.heap.size W w) (H : Hp w h bud sp ov os) (hb : 0 ≤ bud ∧ bud < 9223372036854775808) (hs : 0 ≤ sp ∧ sp < 9223372036854775808) (hfar : ∀ q, Fts h ov os q → W.heap.size ≤ q) (h0 : 0 ≤ p.n) (h1 : l.length ≤ 4096) (hr : bud - sp < 2 + (l.length : Int)) : Ak w h bud sp ov os 5 p (SD.plain 0 0 false) sp (os.map OD.ao) := by
  obtain ⟨la, lc, elv, hrest⟩ := hRt
  have hRt : RtV W p.lv l := ⟨la, lc, elv, hrest⟩
  have hlt := H.lt
  unfold Ak
  refine (ask_bound p hRt hWB hN (k := 0) (n := 0) (ok := false) (P := fun w2 w' => NowA w2 h bud sp ov os w' sp (os.map OD.ao)) (Q := fun w' => NowA w h bud sp ov os w' sp (os.map OD.ao)) (F := Fts h ov os) (fun q e => ⟨hfar q e, hlt q e⟩) H.hlt (fun w2 g off cap b2 hro => ?_) (fun w2 w' N => N.fr) (fun w2 w3 w' b2 N f => N.puts b2 hlt (fun _ e => e) f)).mono fun e w' ⟨he, N⟩ => ⟨_, by rw [he, saidC_plain], Ans.plain _ _ _ _ _, N⟩
  have H2 := H.below b2
  refine (bound_no H2 hb hs hro h1 h0 hr).mono fun e w' hh => ?_
  obtain ⟨rfl, b3⟩ := hh
  exact ⟨rfl, NowA.same H2 b3⟩
theorem ak_bnd_bad1 (hRt : RtV W p.lv l) (hN : l.length ≤ 8796093021952) (hWB : Below W.heap.size W w) (H : Hp w h bud sp ov os) (hb : 0 ≤ bud ∧ bud < 9223372036854775808) (hs : 0 ≤ sp ∧ sp < 9223372036854775808) (hfar : ∀ q, Fts h ov os q → W.heap.size ≤ q) (h0 : 0 ≤ p.n) (h1 : 4096 < l.length) : Ak w h bud sp ov os 5 p (SD.plain 0 0 false) sp (os.map OD.ao) := by
  obtain ⟨la, lc, elv, hrest⟩ := hRt
  have hRt : RtV W p.lv l := ⟨la, lc, elv, hrest⟩
  have hlt := H.lt
  unfold Ak
  refine (ask_bound p hRt hWB hN (k := 0) (n := 0) (ok := false) (P := fun w2 w' => NowA w2 h bud sp ov os w' sp (os.map OD.ao)) (Q := fun w' => NowA w h bud sp ov os w' sp (os.map OD.ao)) (F := Fts h ov os) (fun q e => ⟨hfar q e, hlt q e⟩) H.hlt (fun w2 g off cap b2 hro => ?_) (fun w2 w' N => N.fr) (fun w2 w3 w' b2 N f => N.puts b2 hlt (fun _ e => e) f)).mono fun e w' ⟨he, N⟩ => ⟨_, by rw [he, saidC_plain], Ans.plain _ _ _ _ _, N⟩
  have H2 := H.below b2
  refine (bound_bad2 h0 h1).mono fun e w' hh => ?_
  obtain ⟨rfl, b3⟩ := hh
  exact ⟨rfl, NowA.same H2 b3⟩
theorem ak_bnd_bad2 (hRt : RtV W p.lv l) (hN : l.length ≤ 8796093021952) (hWB : Below W.heap.size W w) (H : Hp w h bud sp ov os) (hb : 0 ≤ bud ∧ bud < 9223372036854775808) (hs : 0 ≤ sp ∧ sp < 9223372036854775808) (hfar : ∀ q, Fts h ov os q → W.heap.size ≤ q) (h0 : p.n < 0) : Ak w h bud sp ov os 5 p (SD.plain 0 0 false) sp (os.map OD.ao) := by
  obtain ⟨la, lc, elv, hrest⟩ := hRt
  have hRt : RtV W p.lv l := ⟨la, lc, elv, hrest⟩
  have hlt := H.lt
  unfold Ak
  refine (ask_bound p hRt hWB hN (k := 0) (n := 0) (ok := false) (P := fun w2 w' => NowA w2 h bud sp ov os w' sp (os.map OD.ao)) (Q := fun w' => NowA w h bud sp ov os w' sp (os.map OD.ao)) (F := Fts h ov os) (fun q e => ⟨hfar q e, hlt q e⟩) H.hlt (fun w2 g off cap b2 hro => ?_) (fun w2 w' N => N.fr) (fun w2 w3 w' b2 N f => N.puts b2 hlt (fun _ e => e) f)).mono fun e w' ⟨he, N⟩ => ⟨_, by rw [he, saidC_plain], Ans.plain _ _ _ _ _, N⟩
  have H2 := H.below b2
  refine (bound_bad1 h0).mono fun e w' hh => ?_
  obtain ⟨rfl, b3⟩ := hh
  exact ⟨rfl, NowA.same H2 b3⟩
theorem ak_rec_ok (hRt : RtV W p.lv l) (hN : l.length ≤ 8796093021952) (hWB : Below W.heap.size W w) (H : Hp w h bud sp ov os) (hb : 0 ≤ bud ∧ bud < 9223372036854775808) (hs : 0 ≤ sp ∧ sp < 9223372036854775808) (hfar : ∀ q, Fts h ov os q → W.heap.size ≤ q) (hr : 2 ≤ bud - sp) (hL : os.length ≤ 1700000000000) : Ak w h bud sp ov os 4 p (SD.plain 7 (os.length : Int) true) (sp + 2) (os.map OD.ao ++ [⟨7, [], [], 0, 0, false⟩]) := by
  obtain ⟨la, lc, elv, hrest⟩ := hRt
  have hRt : RtV W p.lv l := ⟨la, lc, elv, hrest⟩
  have hlt := H.lt
  unfold Ak
  refine (ask_plain p hRt hWB hN (k := 7) (n := (os.length : Int)) (ok := true) (P := fun w2 w' => NowA w2 h bud sp ov os w' (sp + 2) (os.map OD.ao ++ [⟨7, [], [], 0, 0, false⟩])) (Q := fun w' => NowA w h bud sp ov os w' (sp + 2) (os.map OD.ao ++ [⟨7, [], [], 0, 0, false⟩])) (F := Fts h ov os) (fun q e => ⟨hfar q e, hlt q e⟩) H.hlt (by omega) (by omega) (by omega) (fun w2 g off cap b2 hro => ?_) (fun w2 w' N => N.fr) (fun w2 w3 w' b2 N f => N.puts b2 hlt (fun _ e => e) f)).mono fun e w' ⟨he, N⟩ => ⟨_, by rw [he, saidC_plain], Ans.plain _ _ _ _ _, N⟩
  have H2 := H.below b2
  have hlt2 : ∀ q, Fts h ov os q → q < w2.heap.size := fun q e => Nat.lt_of_lt_of_le (hlt q e) b2.size
  have hB3 : Below w2.heap.size w2 (((w2.alloc (.cells #[.int .i64 p.on, .int .i64 p.call, .int .i64 p.vk, .int .i64 p.vn, .int .i64 p.xk, .int .i64 p.xn, .int .i64 p.i, .int .i64 p.n, .slice la l.length lc] 38)).alloc (.cells (saidC 0 0 false) 58)).alloc (.cells (saidC 0 0 false) 58)) := b3 _ _ _ _
  have H3 := H2.below hB3
  refine plain_record p elv (ok := true) (S := fun _ => True) (P := fun w' => NowA (((w2.alloc (.cells #[.int .i64 p.on, .int .i64 p.call, .int .i64 p.vk, .int .i64 p.vn, .int .i64 p.xk, .int .i64 p.xn, .int .i64 p.i, .int .i64 p.n, .slice la l.length lc] 38)).alloc (.cells (saidC 0 0 false) 58)).alloc (.cells (saidC 0 0 false) 58)) h bud sp ov os w' (sp + 2) (os.map OD.ao ++ [⟨7, [], [], 0, 0, false⟩])) (F := Fts h ov os) hlt2 H2.hlt ((record_ok H3 hb hs hr (by omega)).mono fun e w' hh => ?_) (fun w' N => N.fr) (fun w3 w' N f => N.puts hB3 hlt2 (fun q e => by simp; omega) f)
  obtain ⟨rfl, o, o1, o2, o3, N⟩ := hh
  exact ⟨rfl, _, N, by simp [OD.ao, o1, o2, o3]⟩
theorem ak_rec_no (hRt : RtV W p.lv l) (hN : l.length ≤ 8796093021952) (hWB : Below W.heap.size W w) (H : Hp w h bud sp ov os) (hb : 0 ≤ bud ∧ bud < 9223372036854775808) (hs : 0 ≤ sp ∧ sp < 9223372036854775808) (hfar : ∀ q, Fts h ov os q → W.heap.size ≤ q) (hr : bud - sp < 2) : Ak w h bud sp ov os 4 p (SD.plain 0 0 false) sp (os.map OD.ao) := by
  obtain ⟨la, lc, elv, hrest⟩ := hRt
  have hRt : RtV W p.lv l := ⟨la, lc, elv, hrest⟩
  have hlt := H.lt
  unfold Ak
  refine (ask_plain p hRt hWB hN (k := 0) (n := 0) (ok := false) (P := fun w2 w' => NowA w2 h bud sp ov os w' sp (os.map OD.ao)) (Q := fun w' => NowA w h bud sp ov os w' sp (os.map OD.ao)) (F := Fts h ov os) (fun q e => ⟨hfar q e, hlt q e⟩) H.hlt (by omega) (by omega) (by omega) (fun w2 g off cap b2 hro => ?_) (fun w2 w' N => N.fr) (fun w2 w3 w' b2 N f => N.puts b2 hlt (fun _ e => e) f)).mono fun e w' ⟨he, N⟩ => ⟨_, by rw [he, saidC_plain], Ans.plain _ _ _ _ _, N⟩
  have H2 := H.below b2
  have hlt2 : ∀ q, Fts h ov os q → q < w2.heap.size := fun q e => Nat.lt_of_lt_of_le (hlt q e) b2.size
  have hB3 : Below w2.heap.size w2 (((w2.alloc (.cells #[.int .i64 p.on, .int .i64 p.call, .int .i64 p.vk, .int .i64 p.vn, .int .i64 p.xk, .int .i64 p.xn, .int .i64 p.i, .int .i64 p.n, .slice la l.length lc] 38)).alloc (.cells (saidC 0 0 false) 58)).alloc (.cells (saidC 0 0 false) 58)) := b3 _ _ _ _
  have H3 := H2.below hB3
  refine plain_record p elv (ok := false) (S := fun _ => True) (P := fun w' => NowA (((w2.alloc (.cells #[.int .i64 p.on, .int .i64 p.call, .int .i64 p.vk, .int .i64 p.vn, .int .i64 p.xk, .int .i64 p.xn, .int .i64 p.i, .int .i64 p.n, .slice la l.length lc] 38)).alloc (.cells (saidC 0 0 false) 58)).alloc (.cells (saidC 0 0 false) 58)) h bud sp ov os w' sp (os.map OD.ao)) (F := Fts h ov os) hlt2 H2.hlt ((record_no H3 hb hs hr).mono fun e w' hh => ?_) (fun w' N => N.fr) (fun w3 w' N f => N.puts hB3 hlt2 (fun q e => by simp; omega) f)
  obtain ⟨rfl, b3⟩ := hh
  exact ⟨rfl, NowA.same H3 b3⟩
theorem ak_chn_ok (hRt : RtV W p.lv l) (hN : l.length ≤ 8796093021952) (hWB : Below W.heap.size W w) (H : Hp w h bud sp ov os) (hb : 0 ≤ bud ∧ bud < 9223372036854775808) (hs : 0 ≤ sp ∧ sp < 9223372036854775808) (hfar : ∀ q, Fts h ov os q → W.heap.size ≤ q) (h1 : 1 ≤ p.n) (h2 : p.n ≤ 64) (hr : 2 + p.n ≤ bud - sp) (hL : os.length ≤ 1700000000000) : Ak w h bud sp ov os 6 p (SD.plain 9 (os.length : Int) true) (sp + (2 + p.n)) (os.map OD.ao ++ [⟨9, [], [], 0, p.n, false⟩]) := by
  obtain ⟨la, lc, elv, hrest⟩ := hRt
  have hRt : RtV W p.lv l := ⟨la, lc, elv, hrest⟩
  have hlt := H.lt
  unfold Ak
  refine (ask_plain p hRt hWB hN (k := 9) (n := (os.length : Int)) (ok := true) (P := fun w2 w' => NowA w2 h bud sp ov os w' (sp + (2 + p.n)) (os.map OD.ao ++ [⟨9, [], [], 0, p.n, false⟩])) (Q := fun w' => NowA w h bud sp ov os w' (sp + (2 + p.n)) (os.map OD.ao ++ [⟨9, [], [], 0, p.n, false⟩])) (F := Fts h ov os) (fun q e => ⟨hfar q e, hlt q e⟩) H.hlt (by omega) (by omega) (by omega) (fun w2 g off cap b2 hro => ?_) (fun w2 w' N => N.fr) (fun w2 w3 w' b2 N f => N.puts b2 hlt (fun _ e => e) f)).mono fun e w' ⟨he, N⟩ => ⟨_, by rw [he, saidC_plain], Ans.plain _ _ _ _ _, N⟩
  have H2 := H.below b2
  have hlt2 : ∀ q, Fts h ov os q → q < w2.heap.size := fun q e => Nat.lt_of_lt_of_le (hlt q e) b2.size
  have hB3 : Below w2.heap.size w2 (((w2.alloc (.cells #[.int .i64 p.on, .int .i64 p.call, .int .i64 p.vk, .int .i64 p.vn, .int .i64 p.xk, .int .i64 p.xn, .int .i64 p.i, .int .i64 p.n, .slice la l.length lc] 38)).alloc (.cells (saidC 0 0 false) 58)).alloc (.cells (saidC 0 0 false) 58)) := b3 _ _ _ _
  have H3 := H2.below hB3
  refine plain_chan p elv (ok := true) (S := fun _ => True) (P := fun w' => NowA (((w2.alloc (.cells #[.int .i64 p.on, .int .i64 p.call, .int .i64 p.vk, .int .i64 p.vn, .int .i64 p.xk, .int .i64 p.xn, .int .i64 p.i, .int .i64 p.n, .slice la l.length lc] 38)).alloc (.cells (saidC 0 0 false) 58)).alloc (.cells (saidC 0 0 false) 58)) h bud sp ov os w' (sp + (2 + p.n)) (os.map OD.ao ++ [⟨9, [], [], 0, p.n, false⟩])) (F := Fts h ov os) hlt2 H2.hlt ((chan_ok H3 hb hs p.n h1 h2 hr (by omega)).mono fun e w' hh => ?_) (fun w' N => N.fr) (fun w3 w' N f => N.puts hB3 hlt2 (fun q e => by simp; omega) f)
  obtain ⟨rfl, o, N⟩ := hh
  exact ⟨rfl, _, N, by simp [OD.ao, newChan]⟩
theorem ak_chn_no (hRt : RtV W p.lv l) (hN : l.length ≤ 8796093021952) (hWB : Below W.heap.size W w) (H : Hp w h bud sp ov os) (hb : 0 ≤ bud ∧ bud < 9223372036854775808) (hs : 0 ≤ sp ∧ sp < 9223372036854775808) (hfar : ∀ q, Fts h ov os q → W.heap.size ≤ q) (h1 : 1 ≤ p.n) (h2 : p.n ≤ 64) (hr : bud - sp < 2 + p.n) : Ak w h bud sp ov os 6 p (SD.plain 0 0 false) sp (os.map OD.ao) := by
  obtain ⟨la, lc, elv, hrest⟩ := hRt
  have hRt : RtV W p.lv l := ⟨la, lc, elv, hrest⟩
  have hlt := H.lt
  unfold Ak
  refine (ask_plain p hRt hWB hN (k := 0) (n := 0) (ok := false) (P := fun w2 w' => NowA w2 h bud sp ov os w' sp (os.map OD.ao)) (Q := fun w' => NowA w h bud sp ov os w' sp (os.map OD.ao)) (F := Fts h ov os) (fun q e => ⟨hfar q e, hlt q e⟩) H.hlt (by omega) (by omega) (by omega) (fun w2 g off cap b2 hro => ?_) (fun w2 w' N => N.fr) (fun w2 w3 w' b2 N f => N.puts b2 hlt (fun _ e => e) f)).mono fun e w' ⟨he, N⟩ => ⟨_, by rw [he, saidC_plain], Ans.plain _ _ _ _ _, N⟩
  have H2 := H.below b2
  have hlt2 : ∀ q, Fts h ov os q → q < w2.heap.size := fun q e => Nat.lt_of_lt_of_le (hlt q e) b2.size
  have hB3 : Below w2.heap.size w2 (((w2.alloc (.cells #[.int .i64 p.on, .int .i64 p.call, .int .i64 p.vk, .int .i64 p.vn, .int .i64 p.xk, .int .i64 p.xn, .int .i64 p.i, .int .i64 p.n, .slice la l.length lc] 38)).alloc (.cells (saidC 0 0 false) 58)).alloc (.cells (saidC 0 0 false) 58)) := b3 _ _ _ _
  have H3 := H2.below hB3
  refine plain_chan p elv (ok := false) (S := fun _ => True) (P := fun w' => NowA (((w2.alloc (.cells #[.int .i64 p.on, .int .i64 p.call, .int .i64 p.vk, .int .i64 p.vn, .int .i64 p.xk, .int .i64 p.xn, .int .i64 p.i, .int .i64 p.n, .slice la l.length lc] 38)).alloc (.cells (saidC 0 0 false) 58)).alloc (.cells (saidC 0 0 false) 58)) h bud sp ov os w' sp (os.map OD.ao)) (F := Fts h ov os) hlt2 H2.hlt ((chan_no H3 hb hs h1 h2 hr).mono fun e w' hh => ?_) (fun w' N => N.fr) (fun w3 w' N f => N.puts hB3 hlt2 (fun q e => by simp; omega) f)
  obtain ⟨rfl, b3⟩ := hh
  exact ⟨rfl, NowA.same H3 b3⟩
theorem ak_chn_bad1 (hRt : RtV W p.lv l) (hN : l.length ≤ 8796093021952) (hWB : Below W.heap.size W w) (H : Hp w h bud sp ov os) (hb : 0 ≤ bud ∧ bud < 9223372036854775808) (hs : 0 ≤ sp ∧ sp < 9223372036854775808) (hfar : ∀ q, Fts h ov os q → W.heap.size ≤ q) (h1 : p.n < 1) : Ak w h bud sp ov os 6 p (SD.plain 0 0 false) sp (os.map OD.ao) := by
  obtain ⟨la, lc, elv, hrest⟩ := hRt
  have hRt : RtV W p.lv l := ⟨la, lc, elv, hrest⟩
  have hlt := H.lt
  unfold Ak
  refine (ask_plain p hRt hWB hN (k := 0) (n := 0) (ok := false) (P := fun w2 w' => NowA w2 h bud sp ov os w' sp (os.map OD.ao)) (Q := fun w' => NowA w h bud sp ov os w' sp (os.map OD.ao)) (F := Fts h ov os) (fun q e => ⟨hfar q e, hlt q e⟩) H.hlt (by omega) (by omega) (by omega) (fun w2 g off cap b2 hro => ?_) (fun w2 w' N => N.fr) (fun w2 w3 w' b2 N f => N.puts b2 hlt (fun _ e => e) f)).mono fun e w' ⟨he, N⟩ => ⟨_, by rw [he, saidC_plain], Ans.plain _ _ _ _ _, N⟩
  have H2 := H.below b2
  have hlt2 : ∀ q, Fts h ov os q → q < w2.heap.size := fun q e => Nat.lt_of_lt_of_le (hlt q e) b2.size
  have hB3 : Below w2.heap.size w2 (((w2.alloc (.cells #[.int .i64 p.on, .int .i64 p.call, .int .i64 p.vk, .int .i64 p.vn, .int .i64 p.xk, .int .i64 p.xn, .int .i64 p.i, .int .i64 p.n, .slice la l.length lc] 38)).alloc (.cells (saidC 0 0 false) 58)).alloc (.cells (saidC 0 0 false) 58)) := b3 _ _ _ _
  have H3 := H2.below hB3
  refine plain_chan p elv (ok := false) (S := fun _ => True) (P := fun w' => NowA (((w2.alloc (.cells #[.int .i64 p.on, .int .i64 p.call, .int .i64 p.vk, .int .i64 p.vn, .int .i64 p.xk, .int .i64 p.xn, .int .i64 p.i, .int .i64 p.n, .slice la l.length lc] 38)).alloc (.cells (saidC 0 0 false) 58)).alloc (.cells (saidC 0 0 false) 58)) h bud sp ov os w' sp (os.map OD.ao)) (F := Fts h ov os) hlt2 H2.hlt ((chan_bad1 h1).mono fun e w' hh => ?_) (fun w' N => N.fr) (fun w3 w' N f => N.puts hB3 hlt2 (fun q e => by simp; omega) f)
  obtain ⟨rfl, b3⟩ := hh
  exact ⟨rfl, NowA.same H3 b3⟩
theorem ak_chn_bad2 (hRt : RtV W p.lv l) (hN : l.length ≤ 8796093021952) (hWB : Below W.heap.size W w) (H : Hp w h bud sp ov os) (hb : 0 ≤ bud ∧ bud < 9223372036854775808) (hs : 0 ≤ sp ∧ sp < 9223372036854775808) (hfar : ∀ q, Fts h ov os q → W.heap.size ≤ q) (h1 : 1 ≤ p.n) (h2 : 64 < p.n) : Ak w h bud sp ov os 6 p (SD.plain 0 0 false) sp (os.map OD.ao) := by
  obtain ⟨la, lc, elv, hrest⟩ := hRt
  have hRt : RtV W p.lv l := ⟨la, lc, elv, hrest⟩
  have hlt := H.lt
  unfold Ak
  refine (ask_plain p hRt hWB hN (k := 0) (n := 0) (ok := false) (P := fun w2 w' => NowA w2 h bud sp ov os w' sp (os.map OD.ao)) (Q := fun w' => NowA w h bud sp ov os w' sp (os.map OD.ao)) (F := Fts h ov os) (fun q e => ⟨hfar q e, hlt q e⟩) H.hlt (by omega) (by omega) (by omega) (fun w2 g off cap b2 hro => ?_) (fun w2 w' N => N.fr) (fun w2 w3 w' b2 N f => N.puts b2 hlt (fun _ e => e) f)).mono fun e w' ⟨he, N⟩ => ⟨_, by rw [he, saidC_plain], Ans.plain _ _ _ _ _, N⟩
  have H2 := H.below b2
  have hlt2 : ∀ q, Fts h ov os q → q < w2.heap.size := fun q e => Nat.lt_of_lt_of_le (hlt q e) b2.size
  have hB3 : Below w2.heap.size w2 (((w2.alloc (.cells #[.int .i64 p.on, .int .i64 p.call, .int .i64 p.vk, .int .i64 p.vn, .int .i64 p.xk, .int .i64 p.xn, .int .i64 p.i, .int .i64 p.n, .slice la l.length lc] 38)).alloc (.cells (saidC 0 0 false) 58)).alloc (.cells (saidC 0 0 false) 58)) := b3 _ _ _ _
  have H3 := H2.below hB3
  refine plain_chan p elv (ok := false) (S := fun _ => True) (P := fun w' => NowA (((w2.alloc (.cells #[.int .i64 p.on, .int .i64 p.call, .int .i64 p.vk, .int .i64 p.vn, .int .i64 p.xk, .int .i64 p.xn, .int .i64 p.i, .int .i64 p.n, .slice la l.length lc] 38)).alloc (.cells (saidC 0 0 false) 58)).alloc (.cells (saidC 0 0 false) 58)) h bud sp ov os w' sp (os.map OD.ao)) (F := Fts h ov os) hlt2 H2.hlt ((chan_bad2 h1 h2).mono fun e w' hh => ?_) (fun w' N => N.fr) (fun w3 w' N f => N.puts hB3 hlt2 (fun q e => by simp; omega) f)
  obtain ⟨rfl, b3⟩ := hh
  exact ⟨rfl, NowA.same H3 b3⟩
theorem ak_spd_ok (hRt : RtV W p.lv l) (hN : l.length ≤ 8796093021952) (hWB : Below W.heap.size W w) (H : Hp w h bud sp ov os) (hb : 0 ≤ bud ∧ bud < 9223372036854775808) (hs : 0 ≤ sp ∧ sp < 9223372036854775808) (hfar : ∀ q, Fts h ov os q → W.heap.size ≤ q) (h1 : 0 ≤ p.n) (hr : p.n ≤ bud - sp) : Ak w h bud sp ov os 0 p (SD.plain 0 0 true) (sp + p.n) (os.map OD.ao) := by
  obtain ⟨la, lc, elv, hrest⟩ := hRt
  have hRt : RtV W p.lv l := ⟨la, lc, elv, hrest⟩
  have hlt := H.lt
  unfold Ak
  refine (ask_plain p hRt hWB hN (k := 0) (n := 0) (ok := true) (P := fun w2 w' => NowA w2 h bud sp ov os w' (sp + p.n) (os.map OD.ao)) (Q := fun w' => NowA w h bud sp ov os w' (sp + p.n) (os.map OD.ao)) (F := Fts h ov os) (fun q e => ⟨hfar q e, hlt q e⟩) H.hlt (by omega) (by omega) (by omega) (fun w2 g off cap b2 hro => ?_) (fun w2 w' N => N.fr) (fun w2 w3 w' b2 N f => N.puts b2 hlt (fun _ e => e) f)).mono fun e w' ⟨he, N⟩ => ⟨_, by rw [he, saidC_plain], Ans.plain _ _ _ _ _, N⟩
  have H2 := H.below b2
  have hlt2 : ∀ q, Fts h ov os q → q < w2.heap.size := fun q e => Nat.lt_of_lt_of_le (hlt q e) b2.size
  have hB3 : Below w2.heap.size w2 (((w2.alloc (.cells #[.int .i64 p.on, .int .i64 p.call, .int .i64 p.vk, .int .i64 p.vn, .int .i64 p.xk, .int .i64 p.xn, .int .i64 p.i, .int .i64 p.n, .slice la l.length lc] 38)).alloc (.cells (saidC 0 0 false) 58)).alloc (.cells (saidC 0 0 false) 58)) := b3 _ _ _ _
  have H3 := H2.below hB3
  refine plain_spend p elv (ok := true) (S := fun _ => True) (P := fun w' => NowA (((w2.alloc (.cells #[.int .i64 p.on, .int .i64 p.call, .int .i64 p.vk, .int .i64 p.vn, .int .i64 p.xk, .int .i64 p.xn, .int .i64 p.i, .int .i64 p.n, .slice la l.length lc] 38)).alloc (.cells (saidC 0 0 false) 58)).alloc (.cells (saidC 0 0 false) 58)) h bud sp ov os w' (sp + p.n) (os.map OD.ao)) (F := Fts h ov os) hlt2 H2.hlt ((spend_ok H3 hb hs p.n h1 hr).mono fun e w' hh => ?_) (fun w' N => N.fr) (fun w3 w' N f => N.puts hB3 hlt2 (fun q e => by simp; omega) f)
  obtain ⟨rfl, N, f, hz⟩ := hh
  exact ⟨rfl, os, ⟨ov, N, f, fun k hk => .inl hk⟩, rfl⟩
theorem ak_spd_no (hRt : RtV W p.lv l) (hN : l.length ≤ 8796093021952) (hWB : Below W.heap.size W w) (H : Hp w h bud sp ov os) (hb : 0 ≤ bud ∧ bud < 9223372036854775808) (hs : 0 ≤ sp ∧ sp < 9223372036854775808) (hfar : ∀ q, Fts h ov os q → W.heap.size ≤ q) (hr : p.n < 0 ∨ bud - sp < p.n) : Ak w h bud sp ov os 0 p (SD.plain 0 0 false) sp (os.map OD.ao) := by
  obtain ⟨la, lc, elv, hrest⟩ := hRt
  have hRt : RtV W p.lv l := ⟨la, lc, elv, hrest⟩
  have hlt := H.lt
  unfold Ak
  refine (ask_plain p hRt hWB hN (k := 0) (n := 0) (ok := false) (P := fun w2 w' => NowA w2 h bud sp ov os w' sp (os.map OD.ao)) (Q := fun w' => NowA w h bud sp ov os w' sp (os.map OD.ao)) (F := Fts h ov os) (fun q e => ⟨hfar q e, hlt q e⟩) H.hlt (by omega) (by omega) (by omega) (fun w2 g off cap b2 hro => ?_) (fun w2 w' N => N.fr) (fun w2 w3 w' b2 N f => N.puts b2 hlt (fun _ e => e) f)).mono fun e w' ⟨he, N⟩ => ⟨_, by rw [he, saidC_plain], Ans.plain _ _ _ _ _, N⟩
  have H2 := H.below b2
  have hlt2 : ∀ q, Fts h ov os q → q < w2.heap.size := fun q e => Nat.lt_of_lt_of_le (hlt q e) b2.size
  have hB3 : Below w2.heap.size w2 (((w2.alloc (.cells #[.int .i64 p.on, .int .i64 p.call, .int .i64 p.vk, .int .i64 p.vn, .int .i64 p.xk, .int .i64 p.xn, .int .i64 p.i, .int .i64 p.n, .slice la l.length lc] 38)).alloc (.cells (saidC 0 0 false) 58)).alloc (.cells (saidC 0 0 false) 58)) := b3 _ _ _ _
  have H3 := H2.below hB3
  refine plain_spend p elv (ok := false) (S := fun _ => True) (P := fun w' => NowA (((w2.alloc (.cells #[.int .i64 p.on, .int .i64 p.call, .int .i64 p.vk, .int .i64 p.vn, .int .i64 p.xk, .int .i64 p.xn, .int .i64 p.i, .int .i64 p.n, .slice la l.length lc] 38)).alloc (.cells (saidC 0 0 false) 58)).alloc (.cells (saidC 0 0 false) 58)) h bud sp ov os w' sp (os.map OD.ao)) (F := Fts h ov os) hlt2 H2.hlt ((spend_no H3 hb hs p.n hr).mono fun e w' hh => ?_) (fun w' N => N.fr) (fun w3 w' N f => N.puts hB3 hlt2 (fun q e => by simp; omega) f)
  obtain ⟨rfl, q, rfl⟩ := hh
  exact ⟨rfl, NowA.same H3 ((Fr.drewN (S := fun _ => False) q).below (Nat.le_refl _) (fun _ _ e => e))⟩
theorem ak_counts (hRt : RtV W p.lv l) (hN : l.length ≤ 8796093021952) (hWB : Below W.heap.size W w) (H : Hp w h bud sp ov os) (hb : 0 ≤ bud ∧ bud < 9223372036854775808) (hs : 0 ≤ sp ∧ sp < 9223372036854775808) (hfar : ∀ q, Fts h ov os q → W.heap.size ≤ q) : Ak w h bud sp ov os 1 p ⟨0, 0, (os.length : Int), sp, false, AO.zero⟩ sp (os.map OD.ao) := by
  obtain ⟨la, lc, elv, hrest⟩ := hRt
  have hRt : RtV W p.lv l := ⟨la, lc, elv, hrest⟩
  have hlt := H.lt
  unfold Ak
  refine (ask_plainV p hRt hWB hN (P := fun x w2 w' => Ans w2 w' ⟨0, 0, (os.length : Int), sp, false, AO.zero⟩ x ∧ NowA w2 h bud sp ov os w' sp (os.map OD.ao)) (Q := fun x w' => Ans w w' ⟨0, 0, (os.length : Int), sp, false, AO.zero⟩ x ∧ NowA w h bud sp ov os w' sp (os.map OD.ao)) (F := Fts h ov os) (fun q e => ⟨hfar q e, hlt q e⟩) H.hlt (by omega) (by omega) (by omega) (fun w2 g off cap b2 hro => ?_) (fun x w2 w' N => N.2.fr) (fun x w2 w3 w' b2 N f => ⟨?_, N.2.puts b2 hlt (fun _ e => e) f⟩)).mono fun e w' ⟨x, he, N⟩ => ⟨x, he, N⟩
  · have H2 := H.below b2
    have hlt2 : ∀ q, Fts h ov os q → q < w2.heap.size := fun q e => Nat.lt_of_lt_of_le (hlt q e) b2.size
    exact (plain_counts H2 p elv).mono fun e w' ⟨he, b⟩ => ⟨_, he, Ans.num _ _ _ _, NowA.same H2 b⟩
  · obtain ⟨ia, ic, ka, kc, e, o⟩ := N.1
    refine ⟨ia, ic, ka, kc, e, o.1.fr f (fun k hk e => ?_), o.2.1.fr f (fun k hk e => ?_), fun k hk => Nat.le_trans b2.size (o.2.2 k hk)⟩
    · have := o.2.2 k (.inl hk); omega
    · have := o.2.2 k (.inr hk); omega
theorem ak_obj_hit (hRt : RtV W p.lv l) (hN : l.length ≤ 8796093021952) (hWB : Below W.heap.size W w) (H : Hp w h bud sp ov os) (hb : 0 ≤ bud ∧ bud < 9223372036854775808) (hs : 0 ≤ sp ∧ sp < 9223372036854775808) (hfar : ∀ q, Fts h ov os q → W.heap.size ≤ q) {i : Nat} (hp : p.n = (i : Int)) {o : OD} (ho : os[i]? = some o) (hk : o.keys = []) (h4 : o.its.length ≤ 4096) : Ak w h bud sp ov os 2 p ⟨0, 0, 0, 0, true, o.ao⟩ sp (os.map OD.ao) := by
  obtain ⟨la, lc, elv, hrest⟩ := hRt
  have hRt : RtV W p.lv l := ⟨la, lc, elv, hrest⟩
  have hlt := H.lt
  unfold Ak
  refine (ask_plainV p hRt hWB hN (P := fun x w2 w' => Ans w2 w' ⟨0, 0, 0, 0, true, o.ao⟩ x ∧ NowA w2 h bud sp ov os w' sp (os.map OD.ao)) (Q := fun x w' => Ans w w' ⟨0, 0, 0, 0, true, o.ao⟩ x ∧ NowA w h bud sp ov os w' sp (os.map OD.ao)) (F := Fts h ov os) (fun q e => ⟨hfar q e, hlt q e⟩) H.hlt (by omega) (by omega) (by omega) (fun w2 g off cap b2 hro => ?_) (fun x w2 w' N => N.2.fr) (fun x w2 w3 w' b2 N f => ⟨?_, N.2.puts b2 hlt (fun _ e => e) f⟩)).mono fun e w' ⟨x, he, N⟩ => ⟨x, he, N⟩
  · have H2 := H.below b2
    have hlt2 : ∀ q, Fts h ov os q → q < w2.heap.size := fun q e => Nat.lt_of_lt_of_le (hlt q e) b2.size
    have hB3 : Below w2.heap.size w2 (((w2.alloc (.cells #[.int .i64 p.on, .int .i64 p.call, .int .i64 p.vk, .int .i64 p.vn, .int .i64 p.xk, .int .i64 p.xn, .int .i64 p.i, .int .i64 p.n, .slice la l.length lc] 38)).alloc (.cells (saidC 0 0 false) 58)).alloc (.cells (saidC 0 0 false) 58)) := b3 _ _ _ _
    have H3 := H2.below hB3
    refine (plain_object p elv (P := fun y w' => Ans (((w2.alloc (.cells #[.int .i64 p.on, .int .i64 p.call, .int .i64 p.vk, .int .i64 p.vn, .int .i64 p.xk, .int .i64 p.xn, .int .i64 p.i, .int .i64 p.n, .slice la l.length lc] 38)).alloc (.cells (saidC 0 0 false) 58)).alloc (.cells (saidC 0 0 false) 58)) w' ⟨0, 0, 0, 0, true, o.ao⟩ y.sv ∧ Below (((w2.alloc (.cells #[.int .i64 p.on, .int .i64 p.call, .int .i64 p.vk, .int .i64 p.vn, .int .i64 p.xk, .int .i64 p.xn, .int .i64 p.i, .int .i64 p.n, .slice la l.length lc] 38)).alloc (.cells (saidC 0 0 false) 58)).alloc (.cells (saidC 0 0 false) 58)).heap.size (((w2.alloc (.cells #[.int .i64 p.on, .int .i64 p.call, .int .i64 p.vk, .int .i64 p.vn, .int .i64 p.xk, .int .i64 p.xn, .int .i64 p.i, .int .i64 p.n, .slice la l.length lc] 38)).alloc (.cells (saidC 0 0 false) 58)).alloc (.cells (saidC 0 0 false) 58)) w') (Q := fun y w' => Ans w2 w' ⟨0, 0, 0, 0, true, o.ao⟩ y.sv ∧ NowA w2 h bud sp ov os w' sp (os.map OD.ao)) (F := Fts h ov os) hlt2 H2.hlt ?_ ?_ ?_).mono fun e w' ⟨y, he, q⟩ => ⟨_, he, q⟩
    · have hc := object_hit H3 ho h4 hk
      rw [← hp] at hc
      refine hc.mono fun e w' ⟨v1, v2, he, q, b⟩ => ?_
      obtain ⟨va, vc, ve, _⟩ := q.1.shape
      obtain ⟨ua, uc, ue, _⟩ := q.2.1.shape
      rw [show o.ao.keys = [] from hk] at ue
      rw [ve, ue] at he q
      exact ⟨⟨o.ao.k, va, o.ao.its.length, vc, ua, 0, uc, o.ao.fn, o.ao.cap, o.ao.shut, true⟩, he, ⟨va, vc, ua, uc, rfl, q⟩, b⟩
    · rintro y w' ⟨_, b⟩
      exact Fr.of_below b
    · rintro y w3 w' ⟨A, b⟩ f
      refine ⟨?_, NowA.puts hB3 hlt2 (NowA.same H3 b) (fun q e => by simp; omega) f⟩
      obtain ⟨ia, ic, ka, kc, e, o'⟩ := A
      have hz : (((w2.alloc (.cells #[.int .i64 p.on, .int .i64 p.call, .int .i64 p.vk, .int .i64 p.vn, .int .i64 p.xk, .int .i64 p.xn, .int .i64 p.i, .int .i64 p.n, .slice la l.length lc] 38)).alloc (.cells (saidC 0 0 false) 58)).alloc (.cells (saidC 0 0 false) 58)).heap.size = w2.heap.size + 3 := by simp
      refine ⟨ia, ic, ka, kc, e, o'.1.fr f (fun k hk e => ?_), o'.2.1.fr f (fun k hk e => ?_), fun k hk => Nat.le_trans hB3.size (o'.2.2 k hk)⟩
      · have := o'.2.2 k (.inl hk); omega
      · have := o'.2.2 k (.inr hk); omega
  · obtain ⟨ia, ic, ka, kc, e, o⟩ := N.1
    refine ⟨ia, ic, ka, kc, e, o.1.fr f (fun k hk e => ?_), o.2.1.fr f (fun k hk e => ?_), fun k hk => Nat.le_trans b2.size (o.2.2 k hk)⟩
    · have := o.2.2 k (.inl hk); omega
    · have := o.2.2 k (.inr hk); omega
theorem ak_obj_miss (hRt : RtV W p.lv l) (hN : l.length ≤ 8796093021952) (hWB : Below W.heap.size W w) (H : Hp w h bud sp ov os) (hb : 0 ≤ bud ∧ bud < 9223372036854775808) (hs : 0 ≤ sp ∧ sp < 9223372036854775808) (hfar : ∀ q, Fts h ov os q → W.heap.size ≤ q) (hn : p.n < 0 ∨ (os.length : Int) ≤ p.n) : Ak w h bud sp ov os 2 p (SD.plain 0 0 false) sp (os.map OD.ao) := by
  obtain ⟨la, lc, elv, hrest⟩ := hRt
  have hRt : RtV W p.lv l := ⟨la, lc, elv, hrest⟩
  have hlt := H.lt
  unfold Ak
  refine (ask_plainV p hRt hWB hN (P := fun x w2 w' => Ans w2 w' (SD.plain 0 0 false) x ∧ NowA w2 h bud sp ov os w' sp (os.map OD.ao)) (Q := fun x w' => Ans w w' (SD.plain 0 0 false) x ∧ NowA w h bud sp ov os w' sp (os.map OD.ao)) (F := Fts h ov os) (fun q e => ⟨hfar q e, hlt q e⟩) H.hlt (by omega) (by omega) (by omega) (fun w2 g off cap b2 hro => ?_) (fun x w2 w' N => N.2.fr) (fun x w2 w3 w' b2 N f => ⟨?_, N.2.puts b2 hlt (fun _ e => e) f⟩)).mono fun e w' ⟨x, he, N⟩ => ⟨x, he, N⟩
  · have H2 := H.below b2
    have hlt2 : ∀ q, Fts h ov os q → q < w2.heap.size := fun q e => Nat.lt_of_lt_of_le (hlt q e) b2.size
    have hB3 : Below w2.heap.size w2 (((w2.alloc (.cells #[.int .i64 p.on, .int .i64 p.call, .int .i64 p.vk, .int .i64 p.vn, .int .i64 p.xk, .int .i64 p.xn, .int .i64 p.i, .int .i64 p.n, .slice la l.length lc] 38)).alloc (.cells (saidC 0 0 false) 58)).alloc (.cells (saidC 0 0 false) 58)) := b3 _ _ _ _
    have H3 := H2.below hB3
    refine (plain_object p elv (P := fun y w' => y = ⟨0, none, 0, 0, none, 0, 0, 0, 0, false, false⟩ ∧ Below (((w2.alloc (.cells #[.int .i64 p.on, .int .i64 p.call, .int .i64 p.vk, .int .i64 p.vn, .int .i64 p.xk, .int .i64 p.xn, .int .i64 p.i, .int .i64 p.n, .slice la l.length lc] 38)).alloc (.cells (saidC 0 0 false) 58)).alloc (.cells (saidC 0 0 false) 58)).heap.size (((w2.alloc (.cells #[.int .i64 p.on, .int .i64 p.call, .int .i64 p.vk, .int .i64 p.vn, .int .i64 p.xk, .int .i64 p.xn, .int .i64 p.i, .int .i64 p.n, .slice la l.length lc] 38)).alloc (.cells (saidC 0 0 false) 58)).alloc (.cells (saidC 0 0 false) 58)) w') (Q := fun y w' => y = ⟨0, none, 0, 0, none, 0, 0, 0, 0, false, false⟩ ∧ NowA w2 h bud sp ov os w' sp (os.map OD.ao)) (F := Fts h ov os) hlt2 H2.hlt ?_ ?_ ?_).mono fun e w' ⟨y, he, q⟩ => ⟨_, he, by rw [q.1]; exact Ans.plain _ _ 0 0 false, q.2⟩
    · exact (object_miss H3 hn).mono fun e w' ⟨he, b⟩ => ⟨_, he, rfl, b⟩
    · rintro y w' ⟨_, b⟩
      exact Fr.of_below b
    · rintro y w3 w' ⟨A, b⟩ f
      exact ⟨A, NowA.puts hB3 hlt2 (NowA.same H3 b) (fun q e => by simp; omega) f⟩
  · obtain ⟨ia, ic, ka, kc, e, o⟩ := N.1
    refine ⟨ia, ic, ka, kc, e, o.1.fr f (fun k hk e => ?_), o.2.1.fr f (fun k hk e => ?_), fun k hk => Nat.le_trans b2.size (o.2.2 k hk)⟩
    · have := o.2.2 k (.inl hk); omega
    · have := o.2.2 k (.inr hk); omega
end
end Go.Proofs.Ytkpngfahnpidkaa
