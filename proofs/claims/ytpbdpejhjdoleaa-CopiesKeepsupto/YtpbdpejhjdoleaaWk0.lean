/-
  The first example of the chapter.
-/
import Derived.Test.YtpbdpejhjdoleaaSm3
namespace Go.Proofs.Ytpbdpejhjdoleaa
open Go.RowKit
set_option linter.unusedVariables false
set_option linter.unusedSimpArgs false
set_option maxRecDepth 100000 in
theorem reg_any (w : World) (k : Int) :
    Calls Try.prog 18 #[.int .i64 k] w fun e w' => e = .returned (opV (rgO k)) ∧ Below w.heap.size w w' := by
  have hb := box1n w (.cells #[.int .i64 0, .int .i64 k] 52)
  have HB := hide hb
  unfold opV rgO
  clear hb
  go_enter Try.func18, Try.ntmps18
  go_wp2_with fail
  refine bodyPost_ret (v := .agg #[.int .i64 0, .int .i64 k]) ?_ rfl ?_
  · rw [results_cell_one rfl]
    go_simp
  · exact ⟨rfl, unhide HB⟩
theorem Rx.box {W : World} {p : Nat} {arr : Array Value} {t : TypeId} {sz n : Nat} (h : W.heap[p]? = some (.cells arr t)) (hs : arr.size = n * sz) (hn : n ≤ maxLen) : Rx W sz (.slice (some ⟨p, 0, none⟩) n n) n arr.toList := by
  obtain ⟨q1, q2, q3⟩ := blk_cells h
  exact ⟨by rw [Array.length_toList]; exact hs, _, n, rfl, Nat.le_refl _, hn, fun _ => ⟨p, 0, rfl, q3, fun j hj => by rw [Nat.zero_add, q1]; simp⟩⟩
theorem Rd.all {D : Nat → Prop} {w : World} {sz : Nat} {v : Value} {n : Nat} {xs : List Value} (h : Rx w sz v n xs) (hD : ∀ k, D k) : Rd D w sz v n xs := ⟨h, fun _ k _ => hD k⟩
theorem NV.of_ow {T U R : Type} {en : T → List Value} {er : R → List Value} {sz : Nat} {P : World → U → T → Prop} {bl : T → Nat → Prop} {Z D : Nat → Prop} {Q : (Nat → Prop) → World → U → R → Prop} (g : T → R) (hg : ∀ t, en t = er (g t)) {w : World} {v : Value} {us : List U} {xs : List T} (h : OW en sz P bl Z w v us xs) (hD : ∀ k, D k) (hp : ∀ u x, P w u x → Q D w u (g x)) : NV er sz Q D w us v := by
  refine ⟨xs.map g, by rw [List.length_map]; exact h.len, Rd.all ?_ hD, fun i u r hu hr => ?_⟩
  · have e : flt er (xs.map g) = flt en xs := by
      simp only [flt, List.flatMap_map]
      congr 1
      funext t
      exact (hg t).symm
    rw [e]
    exact Rx.of_ro h.row
  · rw [List.getElem?_map] at hr
    cases hx : xs[i]? with
    | none => rw [hx] at hr; cases hr
    | some t =>
      rw [hx] at hr
      cases hr
      exact hp u t (h.el i u t hu hx)
def Tr : Nat → Prop := fun _ => True
theorem InsV.of_ow {Z : Nat → Prop} {w : World} {v : Value} {us : List RIn} {ts : List TI} (h : OW enT 8 InT blT Z w v us ts) : InsV Tr w us v :=
  NV.of_ow (D := Tr) Prod.fst (fun _ => rfl) h (fun _ => trivial) (fun u x hp => InP.mv.wide hp.inP (fun _ _ _ => trivial))
theorem BksV.of_ow {b : Nat} {Z : Nat → Prop} {w : World} {v : Value} {bl : List Bk} {Ts : List TB} (h : OW enTB 3 (PB b) blB Z w v bl Ts) : BksV Tr w bl v :=
  NV.of_ow (D := Tr) Prod.fst (fun _ => rfl) h (fun _ => trivial) (fun u x hp => ⟨hp.pc, InsV.of_ow hp.ow, Rd.all (Rx.of_ro hp.nx) (fun _ => trivial)⟩)
def ex0 : RIn := ⟨1, 0, 1, [⟨0, 0⟩], 0, 0, 0, []⟩
def ex1 : RIn := ⟨1, 0, 2, [⟨0, 1⟩], 0, 0, 0, []⟩
def ex2 : RIn := ⟨1, 0, 2, [⟨0, 0⟩], 0, 0, 0, []⟩
theorem trn_ex : (trn [ex0, ex1]).2 = [ex0, ex2] := by
  simp [trn, stp, inF, srcF, f0, wr0, mvd, updW, rgO, ex0, ex1, ex2, shF, mvO]
theorem i64s : I64 0 ∧ I64 1 ∧ I64 2 := ⟨by show (Lit.int .i64 0).wf = true; decide, by show (Lit.int .i64 1).wf = true; decide, by show (Lit.int .i64 2).wf = true; decide⟩
theorem ex_ok : OkB ⟨0, [ex0, ex1], []⟩ := by
  obtain ⟨z0, z1, z2⟩ := i64s
  refine ⟨fun x hx => ?_, by simp, by simp, fun x hx => ?_⟩
  · simp only [List.mem_cons, List.not_mem_nil, or_false] at hx
    rcases hx with rfl | rfl
    · exact ⟨z1, fun o ho => by simp [ex0] at ho; subst ho; exact ⟨z0, z0⟩, fun s hs => by simp [ex0] at hs⟩
    · exact ⟨z2, fun o ho => by simp [ex1] at ho; subst ho; exact ⟨z0, z1⟩, fun s hs => by simp [ex1] at hs⟩
  · simp only [List.mem_cons, List.not_mem_nil, or_false] at hx
    rcases hx with rfl | rfl <;> simp [ex0, ex1]
end Go.Proofs.Ytpbdpejhjdoleaa
