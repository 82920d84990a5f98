/-
  The example in memory is the example's code.
-/
import Derived.Test.YtpbdmbmafjkinaaDoorKn
import Derived.Test.YtpbdmbmafjkinaaDoorKm
namespace Go.Proofs.YtpbdmbmafjkinaaDoor
open Go.RowKit
set_option linter.unusedVariables false
set_option linter.unusedSimpArgs false
theorem roB {w : World} {g sz n : Nat} {xs : List Value} {t : TypeId} (h : w.heap[g]? = some (.cells xs.toArray t)) (hl : xs.length = n * sz) (hn : n ≤ maxLen) : Ro w sz (slv g n) n xs :=
  ⟨hl, .inr ⟨g, 0, n, xs.toArray, t, rfl, h, Nat.le_refl _, hn, by simp [hl], fun j hj => by simp⟩⟩
theorem rdB {w : World} {g sz n : Nat} {xs : List Value} {t : TypeId} (h : w.heap[g]? = some (.cells xs.toArray t)) (hl : xs.length = n * sz) (hn : n ≤ maxLen) : Rd (fun _ => True) w sz (slv g n) n xs := Rd.of_ro (roB h hl hn) (fun _ _ => trivial)
theorem opB {w : World} {g : Nat} {l : List Op} (h : w.heap[g]? = some (.cells (flt enO l).toArray 70)) (hn : l.length ≤ maxLen) : OpV (fun _ => True) w l (slv g l.length) := rdB h (flt_length zO l) hn
theorem opZ (w : World) : OpV (fun _ => True) w [] slZ := Rd.nil _ w 2
theorem shZ (w : World) : ShsV (fun _ => True) w [] slZ := ⟨[], rfl, Rd.nil _ w 3, fun i u r hu => by simp at hu⟩
theorem shB {w : World} {s t : Nat} {l : List Op} (h : w.heap[s]? = some (.cells #[.int .i64 0, .int .i64 0, slv t l.length] 73)) (k : w.heap[t]? = some (.cells (flt enO l).toArray 70)) (hn : l.length ≤ maxLen) : ShsV (fun _ => True) w [⟨0, 0, l⟩] (slv s 1) := by
  refine ⟨[⟨0, 0, slv t l.length⟩], rfl, rdB (t := 73) h rfl (by decide), fun i u r hu hr => ?_⟩
  match i, hu, hr with
  | 0, hu, hr => cases hu; cases hr; exact ⟨rfl, rfl, opB k hn⟩
  | i + 1, hu, hr => simp at hu
theorem KnW.ins0 {B nx a1 a2 a3 s1 t1 s2 t2 s3 t3 g0 g1 : Nat} {w : World} (h : KnW B nx a1 a2 a3 s1 t1 s2 t2 s3 t3 g0 g1 w) : InsV (fun _ => True) w knX (slv g0 5) := by
  refine ⟨knI0 a1 a2 a3 s1, rfl, rdB (t := 51) h.i0 rfl (by decide), fun i u r hu hr => ?_⟩
  match i, hu, hr with
  | 0, hu, hr => cases hu; cases hr; exact ⟨rfl, rfl, rfl, rfl, rfl, rfl, opB (l := [⟨0, 0⟩]) h.h1 (by decide), shZ w⟩
  | 1, hu, hr => cases hu; cases hr; exact ⟨rfl, rfl, rfl, rfl, rfl, rfl, opB (l := [⟨0, 2⟩, ⟨3, 5⟩]) h.h2 (by decide), shZ w⟩
  | 2, hu, hr => cases hu; cases hr; exact ⟨rfl, rfl, rfl, rfl, rfl, rfl, opB (l := [⟨1, 0⟩]) h.h3 (by decide), shZ w⟩
  | 3, hu, hr => cases hu; cases hr; exact ⟨rfl, rfl, rfl, rfl, rfl, rfl, opZ w, shB (l := [⟨0, 0⟩, ⟨0, 2⟩]) h.j1 h.k1 (by decide)⟩
  | 4, hu, hr => cases hu; cases hr; exact ⟨rfl, rfl, rfl, rfl, rfl, rfl, opZ w, shZ w⟩
  | i + 5, hu, hr => simp [knX] at hu
theorem KnW.ins1 {B nx a1 a2 a3 s1 t1 s2 t2 s3 t3 g0 g1 : Nat} {w : World} (h : KnW B nx a1 a2 a3 s1 t1 s2 t2 s3 t3 g0 g1 w) : InsV (fun _ => True) w knY (slv g1 2) := by
  refine ⟨knI1 s2 s3, rfl, rdB (t := 51) h.i1 rfl (by decide), fun i u r hu hr => ?_⟩
  match i, hu, hr with
  | 0, hu, hr => cases hu; cases hr; exact ⟨rfl, rfl, rfl, rfl, rfl, rfl, opZ w, shB (l := [⟨0, 0⟩, ⟨0, 1⟩]) h.j2 h.k2 (by decide)⟩
  | 1, hu, hr => cases hu; cases hr; exact ⟨rfl, rfl, rfl, rfl, rfl, rfl, opZ w, shB (l := [⟨0, 0⟩, ⟨0, 1⟩]) h.j3 h.k3 (by decide)⟩
  | i + 2, hu, hr => simp [knY] at hu
/-- With the first k instructions of its first block left out. -/
theorem KnW.bks {B nx a1 a2 a3 s1 t1 s2 t2 s3 t3 g0 g1 gb k : Nat} {w : World} (h : KnW B nx a1 a2 a3 s1 t1 s2 t2 s3 t3 g0 g1 w) (hk : k < 5) {xa : Option Addr} (hx : xa = some ⟨g0, 0 + k * 8, none⟩) (hb : w.heap[gb]? = some (.cells (flt enBk (knB (.slice xa (5 - k) (5 - k)) (slv nx 1) g1)).toArray 47)) : BksV (fun _ => True) w (knL k) (slv gb 2) := by
  refine ⟨knB (.slice xa (5 - k) (5 - k)) (slv nx 1) g1, rfl, rdB (t := 47) hb rfl (by decide), fun i u r hu hr => ?_⟩
  match i, hu, hr with
  | 0, hu, hr =>
    cases hu; cases hr
    exact ⟨rfl, InsV.drop (show InsV (fun _ => True) w knX (.slice (some ⟨g0, 0, none⟩) 5 5) from h.ins0) rfl (by omega) (fun _ => hx), rdB (t := 3) (xs := flt enI [1]) h.hx rfl (by decide)⟩
  | 1, hu, hr => cases hu; cases hr; exact ⟨rfl, h.ins1, Rd.nil _ w 1⟩
  | i + 2, hu, hr => simp [knL] at hu
theorem kn_ok (k : Nat) (hk : k ≤ 5) : ∀ b ∈ knL k, OkL b := fun b hb => by
  have hx : ∀ x ∈ knX, x.args.length ≤ 1048576 ∧ x.ex.length ≤ 1048576 ∧ ∀ s ∈ x.ex, s.sl.length ≤ 1048576 := by decide
  have hy : ∀ x ∈ knY, x.args.length ≤ 1048576 ∧ x.ex.length ≤ 1048576 ∧ ∀ s ∈ x.ex, s.sl.length ≤ 1048576 := by decide
  simp only [knL, List.mem_cons, List.not_mem_nil, or_false] at hb
  rcases hb with rfl | rfl
  · refine ⟨?_, by show (1 : Nat) ≤ 1048576; omega, fun x hx' => hx x (List.mem_of_mem_drop hx')⟩
    show (knX.drop k).length ≤ 1048576
    rw [List.length_drop]
    have : knX.length = 5 := rfl
    omega
  · exact ⟨by decide, by decide, hy⟩
end Go.Proofs.YtpbdmbmafjkinaaDoor
