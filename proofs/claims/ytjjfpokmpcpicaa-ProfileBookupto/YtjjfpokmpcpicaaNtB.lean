/-
  Notes in memory.
-/
import Derived.Test.YtjjfpokmpcpicaaTl1
namespace Go.Proofs.Ytjjfpokmpcpicaa
open Go.RowKit
set_option linter.unusedVariables false
set_option linter.unusedSimpArgs false
theorem orU_nat {a b : Int} (ha : 0 ≤ a ∧ a < 65536) (hb : 0 ≤ b ∧ b < 65536) : orU a b = ((a.toNat ||| b.toNat : Nat) : Int) := by
  unfold orU
  exact u16_or _ _ ha.1 ha.2 hb.1 hb.2
theorem cnt_ok (a b : Int) : -9223372036854775808 ≤ cnt a b ∧ cnt a b < 9223372036854775808 := by unfold cnt; split <;> (try split) <;> omega
theorem orU_ok {a b : Int} (ha : 0 ≤ a ∧ a < 65536) (hb : 0 ≤ b ∧ b < 65536) : 0 ≤ orU a b ∧ orU a b < 65536 := by
  rw [orU_nat ha hb]
  have h1 : a.toNat < 2 ^ 16 := by omega
  have h2 : b.toNat < 2 ^ 16 := by omega
  have := Nat.or_lt_two_pow h1 h2
  omega
theorem cal_ok {a b : Int} (ha : -9223372036854775808 ≤ a ∧ a < 9223372036854775808) (hb : -9223372036854775808 ≤ b ∧ b < 9223372036854775808) : -9223372036854775808 ≤ cal a b ∧ cal a b < 9223372036854775808 := by
  unfold cal
  repeat' split
  all_goals omega
theorem tog_ok {x y : Sp} (hx : okS x) (hy : okS y) : okS (tog x y) := ⟨cnt_ok _ _, orU_ok hx.2.1 hy.2.1, orU_ok hx.2.2.1 hy.2.2.1, cal_ok hx.2.2.2 hy.2.2.2⟩
/-- One note of the law. -/
structure Nt where
  on : Int
  fn : Int
  pc : Int
  ar : List (Int × Int)
  k : Int
  ak : Bool
def Nt.s (n : Nt) : Int × Int := (n.fn, n.pc)
def Nt.d (n : Nt) : Sp := ⟨1, kbt n.ar 0, kbt n.ar 1, n.k⟩
def ntP (f : List (List Sp)) (n : Nt) : List (List Sp) := noteP f n.s n.ar n.k
def nts (f : List (List Sp)) (ns : List Nt) : List (List Sp) := ns.foldl ntP f
theorem Nt.okd {n : Nt} (h : I64 n.k) : okS n.d := ⟨by simp [Nt.d], kbt_ok _ _, kbt_ok _ _, h⟩
theorem spAt_note (f : List (List Sp)) (n : Nt) (t : Int × Int) : spAt (ntP f n) t = if n.s = t then (spAt f t).map (fun x => tog x n.d) else spAt f t := by
  unfold ntP noteP
  cases e : spAt f n.s with
  | none =>
    simp only
    by_cases h : n.s = t
    · subst h; rw [if_pos rfl, e]; rfl
    · rw [if_neg h]
  | some x =>
    simp only
    rw [spAt_set e]
    by_cases h : n.s = t
    · subst h; rw [if_pos rfl, if_pos rfl, e]; rfl
    · rw [if_neg (fun q => h q.symm), if_neg h]
def enM (x : Nt × Value) : List Value := [.int .i64 x.1.on, .int .i64 x.1.fn, .int .i64 x.1.pc, x.2, .int .i64 x.1.k, .bool x.1.ak]
theorem zM : ∀ p, (enM p).length = 6 := fun _ => rfl
/-- Notes that can be read. -/
def NtV (w : World) (v : Value) (ns : List Nt) : Prop :=
  ∃ xs : List (Nt × Value), xs.map Prod.fst = ns ∧ Rx w 6 v xs.length (flt enM xs) ∧ ∀ x ∈ xs, Rx w 2 x.2 x.1.ar.length (flt enI x.1.ar)
theorem NtV.below {w w' : World} {v : Value} {ns : List Nt} {B : Nat} (h : NtV w v ns) (k : Below B w w') (hB : w.heap.size ≤ B) : NtV w' v ns := by
  obtain ⟨xs, h1, h2, h3⟩ := h
  exact ⟨xs, h1, h2.below k hB, fun x hx => (h3 x hx).below k hB⟩
theorem NtV.shape {w : World} {v : Value} {ns : List Nt} (h : NtV w v ns) : ∃ a cap, v = .slice a ns.length cap ∧ ns.length ≤ cap ∧ cap ≤ maxLen := by
  obtain ⟨xs, h1, h2, _⟩ := h
  obtain ⟨a, cap, e, m1, m2⟩ := h2.shape
  have : xs.length = ns.length := by rw [← h1, List.length_map]
  exact ⟨a, cap, by rw [e, this], by omega, m2⟩
/-- One note's cells. -/
theorem NtV.at {w : World} {a : Option Addr} {m cap : Nat} {ns : List Nt} (h : NtV w (.slice a m cap) ns) {i : Nat} {n : Nt} (hn : ns[i]? = some n) :
    ∃ b off la lc, a = some ⟨b, off, none⟩ ∧ b < w.heap.size ∧ (w.cell? ⟨b, off + i * 6, none⟩ = some (.int .i64 n.on) ∧ w.cell? ⟨b, off + i * 6 + 1, none⟩ = some (.int .i64 n.fn) ∧ w.cell? ⟨b, off + i * 6 + 2, none⟩ = some (.int .i64 n.pc) ∧ w.cell? ⟨b, off + i * 6 + 3, none⟩ = some (.slice la n.ar.length lc) ∧ w.cell? ⟨b, off + i * 6 + 4, none⟩ = some (.int .i64 n.k) ∧ w.cell? ⟨b, off + i * 6 + 5, none⟩ = some (.bool n.ak)) ∧ Rx w 2 (.slice la n.ar.length lc) n.ar.length (flt enI n.ar) := by
  obtain ⟨xs, rfl, h2, h3⟩ := h
  rw [List.getElem?_map] at hn
  cases e : xs[i]? with
  | none => rw [e] at hn; cases hn
  | some x =>
    rw [e] at hn
    obtain rfl : x.1 = n := Option.some.inj hn
    obtain ⟨b, off, cap', e2, _, _, hb, hc⟩ := h2.elem zM e
    cases e2
    have hr := h3 x (List.mem_of_getElem? e)
    obtain ⟨la, lc, e4, m1, m2⟩ := hr.shape
    have q3 := hc 3 _ rfl
    rw [e4] at hr q3
    exact ⟨b, off, la, lc, rfl, hb, ⟨hc 0 _ rfl, hc 1 _ rfl, hc 2 _ rfl, q3, hc 4 _ rfl, hc 5 _ rfl⟩, hr⟩
theorem okF_sp {f : List (List Sp)} (h : ∀ t x, spAt f t = some x → okS x) : OkF f := fun l hl s hs => by
  obtain ⟨n, hn, rfl⟩ := List.getElem_of_mem hl
  obtain ⟨k, hk, rfl⟩ := List.getElem_of_mem hs
  exact h _ _ (spAt_of (List.getElem?_eq_getElem hn) (List.getElem?_eq_getElem hk))
theorem ntP_ok {f : List (List Sp)} (h : OkF f) {n : Nt} (hn : I64 n.k) : OkF (ntP f n) := okF_sp (fun t x hx => by
  rw [spAt_note] at hx
  split at hx
  · cases e : spAt f t with
    | none => rw [e] at hx; cases hx
    | some y =>
      rw [e] at hx
      cases hx
      exact tog_ok (h.at e) (Nt.okd hn)
  · exact h.at hx)
theorem nts_ok {f : List (List Sp)} (h : OkF f) {ns : List Nt} (hn : ∀ n ∈ ns, I64 n.k) : OkF (nts f ns) := by
  induction ns generalizing f with
  | nil => exact h
  | cons a l ih => exact ih (ntP_ok h (hn a (by simp))) (fun n q => hn n (by simp [q]))
theorem nts_step {f : List (List Sp)} {ns : List Nt} {i : Nat} {n : Nt} (h : ns[i]? = some n) : nts f (ns.take (i + 1)) = ntP (nts f (ns.take i)) n := by
  unfold nts
  rw [List.take_add_one, h, List.foldl_append]
  rfl
/-- What the law asks of each note. -/
def OkN (n : Nt) : Prop := I64 n.on ∧ OkV (n.fn, n.pc) ∧ I64 n.k ∧ n.ar.length ≤ 5864062014634
def pck (k n : Int) : Int := if k.tmod n < 0 then k.tmod n + n else k.tmod n
theorem pck_bd (k : Int) {n : Int} (hn : 1 ≤ n) : 0 ≤ pck k n ∧ pck k n < n := by
  have hlo : -n < k.tmod n := Int.lt_tmod_of_pos k (show 0 < n by omega)
  have hhi : k.tmod n < n := Int.tmod_lt_of_pos k (by omega)
  unfold pck
  split <;> omega
set_option maxRecDepth 100000 in
theorem pick_any (w : World) (k n : Int) (hn : 1 ≤ n) (hm : n ≤ 17592186044416) :
    Calls Try.prog 10 #[.int .i64 k, .int .i64 n] w fun e w' => e = .returned (.int .i64 (pck k n)) ∧ w' = w := by
  have h1 : ¬ n < 1 := by omega
  have h0 : ¬ n = 0 := by omega
  have hlo : -n < k.tmod n := by have := Int.lt_tmod_of_pos k (show 0 < n by omega); exact this
  have hhi : k.tmod n < n := Int.tmod_lt_of_pos k (by omega)
  go_enter Try.func10, Try.ntmps10
  by_cases hneg : k.tmod n < 0
  · have e : pck k n = k.tmod n + n := if_pos hneg
    rw [e]
    go_wp2_with fail
    go_ret
    exact ⟨rfl, rfl⟩
  · have e : pck k n = k.tmod n := if_neg hneg
    rw [e]
    go_wp2_with fail
    go_ret
    exact ⟨rfl, rfl⟩

theorem NtV.far {w wr : World} {na : Option Addr} {m nc : Nat} {ns : List Nt} (h : NtV w (.slice na m nc) ns) (hb : Below w.heap.size w wr) {i : Nat} {n : Nt} (hn : ns[i]? = some n) :
    ∃ b off la lc, na = some ⟨b, off, none⟩ ∧ b < wr.heap.size ∧ (wr.cell? ⟨b, off + i * 6, none⟩ = some (.int .i64 n.on) ∧ wr.cell? ⟨b, off + i * 6 + 1, none⟩ = some (.int .i64 n.fn) ∧ wr.cell? ⟨b, off + i * 6 + 2, none⟩ = some (.int .i64 n.pc) ∧ wr.cell? ⟨b, off + i * 6 + 3, none⟩ = some (.slice la n.ar.length lc) ∧ wr.cell? ⟨b, off + i * 6 + 4, none⟩ = some (.int .i64 n.k) ∧ wr.cell? ⟨b, off + i * 6 + 5, none⟩ = some (.bool n.ak)) ∧ Rx wr 2 (.slice la n.ar.length lc) n.ar.length (flt enI n.ar) ∧ ∀ Z : Nat → Prop, (∀ k, Z k → w.heap.size ≤ k) → 0 < n.ar.length → ∀ b, (Value.slice la n.ar.length lc).ownBlock = some b → ¬ Z b := by
  obtain ⟨b, off, la, lc, rfl, hbl, ⟨n0, n1, n2, n3, n4, n5⟩, hrx⟩ := h.at hn
  refine ⟨b, off, la, lc, rfl, Nat.lt_of_lt_of_le hbl hb.size, ⟨(hb.cell (p := ⟨b, off + i * 6, none⟩) hbl).trans n0, (hb.cell (p := ⟨b, off + i * 6 + 1, none⟩) hbl).trans n1, (hb.cell (p := ⟨b, off + i * 6 + 2, none⟩) hbl).trans n2, (hb.cell (p := ⟨b, off + i * 6 + 3, none⟩) hbl).trans n3, (hb.cell (p := ⟨b, off + i * 6 + 4, none⟩) hbl).trans n4, (hb.cell (p := ⟨b, off + i * 6 + 5, none⟩) hbl).trans n5⟩, hrx.below hb (Nat.le_refl _), fun Z hZ h0 b2 hb2 hz => ?_⟩
  obtain ⟨_, a, c, e1, _, _, e2⟩ := hrx
  cases e1
  obtain ⟨b3, o3, e3, hlt3, _⟩ := e2 h0
  subst e3
  have hbb : b3 = b2 := Option.some.inj hb2
  have := hZ b2 hz
  omega
end Go.Proofs.Ytjjfpokmpcpicaa
