/-
  The smallest program and its bytes: what the kernel reckons; small.
-/
import Derived.Test.YtlogmdldjmkkjaaGreatDoorDDe
import Derived.Test.YtlogmdldjmkkjaaGreatDoorText
import Derived.Test.YtlogmdldjmkkjaaGreatDoorDone
import Derived.Test.YtlogmdldjmkkjaaGreatDoorEnc
import Derived.Test.YtlogmdldjmkkjaaGreatDoorWritten
import Derived.Maps.AppendAt
import Derived.Lib.SlBytesConst
import Derived.Test.YtlogmdldjmkkjaaGreatDoorSPm
namespace Go.Proofs.YtlogmdldjmkkjaaGreatDoor
open Go.RowKit
set_option linter.unusedVariables false
set_option linter.unusedSimpArgs false

/-- The form of a count. -/
def ufm (n : Int) : List Int := Wm.uform 9 n.toNat
theorem Wtr.al {w : World} {p : Nat} {v : Value} {bs : List Int} (h : Wtr w p v bs) (o : Obj) : Wtr (w.alloc o) p v bs := h.keep (S := fun _ => False) ((Fr.refl _ w).alloc o) (fun e => e) (fun _ _ e => e)
theorem WStep.al {p : Nat} {w : World} {v : Value} (o : Obj) : WStep p w v (w.alloc o) v := ⟨(Fr.refl _ w).alloc o, .inl rfl⟩
theorem WStep.off {w w' : World} {p b : Nat} {v v' : Value} (k : WStep p w v w' v') (hb : b < w.heap.size) (hv : v.ownBlock ≠ some b) : v'.ownBlock ≠ some b := by
  intro e
  rcases k.row with q | q
  · exact hv (q ▸ e)
  · have := q b e; omega
theorem ufm_len (n : Int) : (ufm n).length ≤ 10 := by
  unfold ufm
  rw [Wm.uform_length]; exact (Wm.ulen_bd 9 _).2
/-- The form of a handler. -/
def hfm (h : Hd) : List Int := ufm h.frm ++ (ufm h.to ++ (ufm h.target ++ ufm h.height))
theorem hfm_len (h : Hd) : (hfm h).length ≤ 40 := by
  unfold hfm
  have := ufm_len h.frm; have := ufm_len h.to; have := ufm_len h.target; have := ufm_len h.height
  simp only [List.length_append]; omega
def NnH (h : Hd) : Prop := (0 ≤ h.frm ∧ h.frm ≤ 9223372036854775807) ∧ (0 ≤ h.to ∧ h.to ≤ 9223372036854775807) ∧ (0 ≤ h.target ∧ h.target ≤ 9223372036854775807) ∧ (0 ≤ h.height ∧ h.height ≤ 9223372036854775807)
set_option linter.unusedVariables false
set_option linter.unusedSimpArgs false

/-- The writer's own lies above. -/
def Hi (w0 : World) (p : Nat) (v : Value) : Prop := w0.heap.size ≤ p ∧ ∀ k, v.ownBlock = some k → w0.heap.size ≤ k
theorem Hi.step {w0 w w' : World} {p : Nat} {v v' : Value} (h : Hi w0 p v) (k : WStep p w v w' v') (hs : w0.heap.size ≤ w.heap.size) : Hi w0 p v' ∧ Below w0.heap.size w w' := by
  refine ⟨⟨h.1, fun i hi => ?_⟩, k.fr.below hs (fun i hi q => ?_)⟩
  · rcases k.row with q | q
    · exact h.2 i (q ▸ hi)
    · have := q i hi; omega
  · rcases q with q | q
    · have := h.1; omega
    · have := h.2 i q; omega
/-- The form of a list. -/
def lfm {T : Type} (f : T → List Int) (l : List T) : List Int := ufm l.length ++ l.flatMap f
theorem fm_take {T : Type} (f : T → List Int) {l : List T} {i : Nat} {x : T} (h : l[i]? = some x) : (l.take (i + 1)).flatMap f = (l.take i).flatMap f ++ f x := by
  rw [List.take_add_one, h]; simp
theorem fm_len {T : Type} (f : T → List Int) (m : Nat) : ∀ (l : List T), (∀ x ∈ l, (f x).length ≤ m) → (l.flatMap f).length ≤ l.length * m := by
  intro l
  induction l with
  | nil => intro _; simp
  | cons a r ih =>
    intro h
    have h1 := ih (fun x hx => h x (List.mem_cons_of_mem _ hx))
    have h2 := h a (by simp)
    simp only [List.flatMap_cons, List.length_append, List.length_cons, Nat.add_mul, Nat.one_mul]
    omega

set_option linter.unusedVariables false
set_option linter.unusedSimpArgs false

/-- The form of a constant. -/
def cfm (c : Cn) : List Int := c.kind :: (if c.kind = 3 then wpre (IntKind.u64.wrap c.n).toNat 8 else Wm.uform 9 c.text.size ++ strI c.text)
def NnC (c : Cn) : Prop := (c.kind = 3 ∨ c.kind = 4) ∧ c.text.size ≤ 4096 ∧ I64 c.n
theorem cfm_len {c : Cn} (h : NnC c) : (cfm c).length ≤ 5000 := by
  unfold cfm
  have h1 := ufm_len (c.text.size : Int)
  have e : ufm (c.text.size : Int) = Wm.uform 9 c.text.size := rfl
  rw [e] at h1
  have h2 : (strI c.text).length = c.text.size := strI_length _
  split
  · have : (wpre (IntKind.u64.wrap c.n).toNat 8).length = 8 := wpre_length _ _
    simp only [List.length_cons]; omega
  · simp only [List.length_cons, List.length_append]; have := h.2.1; omega
set_option linter.unusedVariables false
set_option linter.unusedSimpArgs false

set_option linter.unusedVariables false
set_option linter.unusedSimpArgs false

/-- The form of a function. -/
def ffm (f : Fc) : List Int := (Wm.uform 9 f.name.size ++ strI f.name) ++ (ufm f.params ++ (ufm f.locals ++ (ufm (encB f.code).length ++ (encB f.code ++ lfm hfm f.hs))))
def NnF (f : Fc) : Prop := f.name.size ≤ 32 ∧ (0 ≤ f.params ∧ f.params ≤ 9223372036854775807) ∧ (0 ≤ f.locals ∧ f.locals ≤ 9223372036854775807) ∧ f.code.length ≤ 2000 ∧ (∀ q ∈ f.code, I64 q.1 ∧ I64 q.2) ∧ (∀ x ∈ f.hs, NnH x) ∧ f.hs.length ≤ 32 ∧ 0 < (encB f.code).length
theorem RtV.of_rx {w : World} {v : Value} {l : List (Int × Int)} (h : Rx w 2 v l.length (flt enI l)) : RtV w v l := by
  obtain ⟨a, cap, e, h1, h2⟩ : ∃ a cap, v = .slice a l.length cap ∧ l.length ≤ cap ∧ cap ≤ maxLen := by obtain ⟨_, a, cap, e, h1, h2, _⟩ := h; exact ⟨a, cap, e, h1, h2⟩
  refine ⟨a, cap, e, h1, h2, fun i q hq => ?_⟩
  obtain ⟨b, off, cap', e', _, _, hb, hc⟩ := Rx.elem zI h hq
  rw [e] at e'
  cases e'
  exact ⟨b, off, rfl, hb, by have := hc 0 _ rfl; rwa [Nat.add_zero] at this, hc 1 _ rfl⟩
theorem encB_lenW (l : List (Int × Int)) : (encB l).length ≤ 22000 := by
  unfold encB
  split
  · rename_i h
    have hl : l.length ≤ 2000 := by
      unfold encE at h
      split at h
      · simp at h
      · omega
    have := fm_len ifm 11 l (fun x _ => by have := opF_len (kd x.1.toNat) x.2; unfold ifm; simp only [List.length_cons]; omega)
    show (l.flatMap ifm).length ≤ _
    omega
  · simp
set_option linter.unusedVariables false
set_option linter.unusedSimpArgs false

theorem lfm_len {T : Type} (f : T → List Int) (m : Nat) (l : List T) (h : ∀ x ∈ l, (f x).length ≤ m) : (lfm f l).length ≤ 10 + l.length * m := by
  unfold lfm
  have h1 := ufm_len (l.length : Int)
  have h2 := fm_len f m l h
  rw [List.length_append]; omega
theorem ffm_len {f : Fc} (h : NnF f) : (ffm f).length ≤ 24000 := by
  unfold ffm
  have u1 := ufm_len f.params
  have u2 := ufm_len f.locals
  have u3 : (Wm.uform 9 f.name.size).length ≤ 10 := ufm_len (f.name.size : Int)
  have u4 := strI_length f.name
  have u5 := encB_lenW f.code
  have u6 := ufm_len ((encB f.code).length : Int)
  have u7 := lfm_len hfm 40 f.hs (fun x _ => hfm_len x)
  obtain ⟨k1, _, _, _, _, _, k9, _⟩ := h
  simp only [List.length_append]
  omega
theorem Rd.shapeR {w : World} {v : Value} {bs : List Int} (h : Rd w v bs) : ∃ a cap, v = .slice a bs.length cap := by
  rcases h with ⟨rfl, rfl⟩ | ⟨b, off, cap, rfl, _⟩
  · exact ⟨none, 0, rfl⟩
  · exact ⟨_, cap, rfl⟩
/-- A byte that a slice reads. -/
theorem Rd.at {w : World} {a : Option Addr} {len cap : Nat} {bs : List Int} (h : Rd w (.slice a len cap) bs) (i : Nat) (hi : i < bs.length) : ∃ b off, a = some ⟨b, off, none⟩ ∧ b < w.heap.size ∧ w.cell? ⟨b, off + i, none⟩ = some (.int .u8 (bs.getD i 0)) := by
  rcases h with ⟨_, rfl⟩ | ⟨b, off, cap', e, _, _, hb, hc⟩
  · simp at hi
  · simp only [Value.slice.injEq] at e
    exact ⟨b, off, e.1, hb, hc i hi⟩
/-- What holds of a row that is made byte by byte. -/
def Grows (w0 : World) (l : Value) (bs : List Int) (w : World) : Prop := w.ownsRow w0.heap.size 5 1 l bs.length (bs.map By) ∧ Below w0.heap.size w0 w
theorem Grows.step {w0 wr w1 : World} {l v : Value} {bs : List Int} {b : Int} {o : Obj} {n : Nat} {xs : List Value} (h : Grows w0 l bs wr) (hown : w1.ownsRow w0.heap.size 5 1 v n xs) (hn : n = bs.length + 1) (hx : xs = bs.map By ++ [.int .u8 b]) (hg : (wr.alloc o).grownBy w1 l.ownBlock) : Grows w0 v (bs ++ [b]) w1 := by
  subst hn hx
  refine ⟨by simpa [By] using hown, ?_⟩
  have F : Fr (fun _ => False) w0 w1 := ((Fr.of_below h.2).alloc o).grown hg (fun k hk => .inl (h.1.lt k hk).1)
  exact F.below (Nat.le_refl _) (by simp)

set_option linter.unusedVariables false
set_option linter.unusedSimpArgs false

/-- The form of a program. -/
def pfm (p : Pg) : List Int := [80, 84, 80, 1] ++ (lfm cfm p.consts ++ lfm ffm p.funcs)
/-- What Encode answers. -/
noncomputable def enP (p : Pg) : List Int × Int := match ckF p with
  | some (_, _, y) => ([], y)
  | none => if 4194304 < (pfm p).length then ([], 5) else (pfm p, 0)
set_option linter.unusedVariables false
set_option maxRecDepth 100000
/-- A new row. -/
theorem Ro.new {w : World} {sz n : Nat} {arr : Array Value} {t : TypeId} (h : arr.size = n * sz) (hn : n ≤ maxLen) {b : Nat} (hb : w.heap.size = b) : Ro (w.alloc (.cells arr t)) sz (.slice (some ⟨b, 0, none⟩) n n) n arr.toList := by
  subst hb
  refine ⟨by simp [h], .inr ⟨w.heap.size, 0, n, arr, t, rfl, heap_alloc_new w _, Nat.le_refl _, hn, by omega, fun j hj => ?_⟩⟩
  rw [Nat.zero_add]; simp
end Go.Proofs.YtlogmdldjmkkjaaGreatDoor
