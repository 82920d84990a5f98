/-
  Hex, the program's and the document's.
-/
import Derived.Test.YtlkcjimkgebeiaaBase
namespace Go.Proofs.Ytlkcjimkgebeiaa
open Go.RowKit

/-- A digit. -/
def hd (n : Int) : Int := if n < 10 then 48 + n else 87 + n
/-- The digits of bytes. -/
def hexB (x : List Int) : List Int := x.flatMap fun b => [hd (b / 16), hd (b % 16)]
theorem hexB_append (x y : List Int) : hexB (x ++ y) = hexB x ++ hexB y := by simp [hexB]
theorem hexB_length (x : List Int) : (hexB x).length = 2 * x.length := by
  induction x with
  | nil => rfl
  | cons b t ih => rw [show b :: t = [b] ++ t from rfl, hexB_append, List.length_append, ih, List.length_append]; simp [hexB]; omega
theorem hd_bd {n : Int} (h0 : 0 ≤ n) (h1 : n < 16) : 0 ≤ hd n ∧ hd n < 256 := by unfold hd; split <;> omega
theorem hexB_bok {x : List Int} (h : BOk x) : BOk (hexB x) := by
  intro b hb
  simp only [hexB, List.mem_flatMap] at hb
  obtain ⟨a, ha, hb⟩ := hb
  have := h a ha
  simp at hb
  rcases hb with rfl | rfl
  · exact hd_bd (by omega) (by omega)
  · exact hd_bd (by omega) (by omega)
/-- The digits as the program's text has them. -/
def digS : ByteArray := { data := #[48, 49, 50, 51, 52, 53, 54, 55, 56, 57, 97, 98, 99, 100, 101, 102] }

/-- An array's box. -/
theorem box_cell (w : World) (x : List Int) (t : TypeId) (j : Nat) (hj : j < x.length) : (w.alloc (.cells (Ar .u8 x) t)).cell? ⟨w.heap.size, j, none⟩ = some (.int .u8 (x.getD j 0)) := by
  have := (Seg.fresh w t .u8 x).cell j hj
  rwa [Nat.zero_add] at this

theorem digS_at (q : Nat) (h : q < 16) (h2 : q < ByteArray.size { data := #[48, 49, 50, 51, 52, 53, 54, 55, 56, 57, 97, 98, 99, 100, 101, 102] }) : (((({ data := #[48, 49, 50, 51, 52, 53, 54, 55, 56, 57, 97, 98, 99, 100, 101, 102] } : ByteArray)[q]'h2).toNat : Nat) : Int) = hd (q : Int) := by
  have : ∀ n : Fin 16, ((({ data := #[48, 49, 50, 51, 52, 53, 54, 55, 56, 57, 97, 98, 99, 100, 101, 102] } : ByteArray)[n.val]'n.isLt).toNat : Int) = hd (n.val : Int) := by decide
  exact this ⟨q, h⟩
theorem digS_get (q : Nat) (h : q < 16) : ((digS.data[q]?.getD 0).toNat : Int) = hd (q : Int) := by
  have : ∀ n : Fin 16, ((digS.data[n.val]?.getD 0).toNat : Int) = hd (n.val : Int) := by decide
  exact this ⟨q, h⟩

/-- Two bytes appended to a row of one's own, as one step of a region that draws. -/
theorem step_app2 {ops : Array Oper} {o : Oper} {a : Act} {K : Act → World → Prop} {Q : Exit → Act → World → Prop} {E : Prop} (w0 w : World) (v : Value) (bs : List Int) (x y : Int)
    (n : Nat) (hn : Hid (bs.length = n)) (h : Grows w0 v bs w) (hb : n + 2 < 140737488355328) (hgd : o.guard = none) (s u : Operand)
    (ho : o.op = .call { callee := .builtin .append, args := #[s, u], argTypes := #[25, 25] }) (hs : a.eval s = v) (hx : a.eval u = .slice (some ⟨w.heap.size, 0, none⟩) 2 2)
    (hK : ∀ gg cap w1, Hid (Grows w0 (.slice (some ⟨gg, 0, none⟩) (n + 2) cap) (bs ++ [x, y]) w1) →
      K (a.put o.dst (.slice (some ⟨gg, 0, none⟩) (n + 2) cap)) w1) :
    if Region.wanted o (yielded ops a.tmps) = true then Oper.wp Try.prog o a ((w.alloc (.cells #[.int .u8 x, .int .u8 y] 5)).drew) K Q else E := by
  obtain rfl := unhide hn
  obtain ⟨i0, hi0, hz0, hz1, hz2⟩ := info_parts Try.info5
  refine step_append_lies _ hgd s u 25 ho w0.heap.size 5 i0 _ 1 1 Try.underlying25 hi0 hz0 hz1 hz2 rfl (by omega) v bs.length (bs.map By) hs ((h.1.alloc _).drew)
    ⟨w.heap.size, 0, none⟩ 2 2 [.int .u8 x, .int .u8 y] hx rfl (World.news_of_block (cs := #[.int .u8 x, .int .u8 y]) (t := 5) (fr := (0, 0)) (heap_alloc_new w _)) (by simp [Value.oneCell'])
    (by omega) (by unfold maxLen; omega) (by omega) (by have := h.2.size; simp; omega) (w.heap.size + 1) (by simp) ?_
  intro gg cap w1 hown1 hgrow hat hlt
  refine hK gg cap w1 ⟨by simpa [By] using hown1, ?_⟩
  have F : Fr (fun _ => False) w0 w1 := (((Fr.of_below h.2).alloc _).drew).grown hgrow (fun k hk => .inl (h.1.lt k hk).1)
  exact F.below (Nat.le_refl _) (by simp)

set_option maxHeartbeats 1600000 in
set_option maxRecDepth 100000 in
theorem refHex_any (x : List Int) (hx : x.length = 32) (hB : BOk x) (w : World) :
    Calls Try.prog 6 #[.agg (Ar .u8 x)] w fun e w' => e = .returned (.string (toStr (hexB x))) ∧ Below w.heap.size w w' := by
  have hbox := hide (box_cell w x 22)
  have hag : Hid ((Ar .u8 x).size = 32) := by rw [Ar_size]; exact hx
  generalize hc : Ar .u8 x = c at *
  have HC := hide hc
  have HX := hide hx
  have HB := hide hB
  clear hc hx hB
  go_enter Try.func6, Try.ntmps6
  go_wp2
  go_loopg [3, 4] 32 (fun k l s wr => ∃ (j : Nat), Hid (j + k = 32) ∧ j ≤ 32 ∧ s = .int .i64 (j : Int) ∧ Hid (Grows (w.alloc (.cells c 22)) l (hexB (x.take j)) wr))
  case atStart => exact ⟨0, by unfold Hid; omega, by omega, rfl, by exact ⟨World.ownsRow_nil _ _ _ _, Below.refl _ _⟩⟩
  case round =>
    obtain ⟨j, hj, hj32, rfl, hG⟩ := hrel
    by_cases hlt : j < 32
    · have hcell : wr.cell? ⟨w.heap.size, j, none⟩ = some (.int .u8 (x.getD j 0)) := ((unhide hG).2.cell (p := ⟨w.heap.size, j, none⟩) (by simp)).trans (unhide hbox j (by rw [unhide HX]; exact hlt))
      have htk := hide (take_getD0 x j (by rw [unhide HX]; exact hlt))
      have hbd : 0 ≤ x.getD j 0 ∧ x.getD j 0 < 256 := unhide HB _ (by rw [List.getD_eq_getElem?_getD, List.getElem?_eq_getElem (by rw [unhide HX]; exact hlt)]; exact List.getElem_mem _)
      have hlen : Hid ((hexB (x.take j)).length = 2 * j) := by rw [Hid, hexB_length, List.length_take, unhide HX]; omega
      generalize x.getD j 0 = b at *
      obtain ⟨b0, b1⟩ := hbd
      obtain ⟨b, rfl⟩ := Int.eq_ofNat_of_zero_le b0
      have i1 : (0 : Int) ≤ (j : Int) := by omega
      have i2 : (j : Int) < 32 := by omega
      have hw1 : IntKind.u8.wrap ((b : Int) / 16) = ((b / 16 : Nat) : Int) := by rw [IntKind.wrap_u8]; omega
      have hw2 : (b : Int).tmod 16 = ((b % 16 : Nat) : Int) := by rw [Int.tmod_eq_emod_of_nonneg (by omega)]; omega
      obtain ⟨q1, hq1⟩ : ∃ q, Hid (b / 16 = q) := ⟨_, rfl⟩
      obtain ⟨q2, hq2⟩ : ∃ q, Hid (b % 16 = q) := ⟨_, rfl⟩
      have l1 : q1 < 16 := by have := unhide hq1; omega
      have l2 : q2 < 16 := by have := unhide hq2; omega
      rw [unhide hq1] at hw1
      rw [unhide hq2] at hw2
      have hI1 := digS_at q1 l1
      have hI2 := digS_at q2 l2
      have k1 : (q1 : Int) < 16 := by omega
      have k2 : (q2 : Int) < 16 := by omega
      have hH1 := hide (And.intro hq1 hq2)
      obtain ⟨y1, hy1⟩ : ∃ y, Hid (hd (q1 : Int) = y) := ⟨_, rfl⟩
      obtain ⟨y2, hy2⟩ : ∃ y, Hid (hd (q2 : Int) = y) := ⟨_, rfl⟩
      rw [unhide hy1] at hI1
      rw [unhide hy2] at hI2
      go_wp2
      go_region_law ((refine step_app2 (w.alloc (.cells c 22)) wr u3 (hexB (x.take j)) y1 y2 (2 * j) hlen (unhide hG) (by omega) (by rfl) _ _ (by rfl) (by rfl) (by rfl) ?_; intro gg cap w1 hh))
      all_goals go_wp2
      all_goals
        go_roundg (gk - 1)
        case measure => have := unhide hj; omega
        case rel => exact ⟨j + 1, by have := unhide hj; unfold Hid; omega, by omega, by go_num, by
          rw [unhide htk, hexB_append]
          have e1 : hexB [(b : Int)] = [y1, y2] := by
            rw [← unhide hy1, ← unhide hy2, ← unhide hq1, ← unhide hq2]
            show [hd ((b : Int) / 16), hd ((b : Int) % 16)] = _
            rw [Int.natCast_ediv, Int.natCast_emod]; rfl
          rw [e1]
          exact hh⟩
    · obtain rfl : j = 32 := by omega
      have HG : Hid (Grows (w.alloc (.cells c 22)) u3 (hexB x) wr) := by
        have h := unhide hG
        rw [List.take_of_length_le (by rw [unhide HX]; exact Nat.le_refl _)] at h
        exact h
      have hsc := str_conv wr u3 (hexB x) (Rd.of_own (unhide HG).1) (hexB_bok (unhide HB))
      obtain ⟨a2, l2, c2, hv2⟩ := own_shape (unhide HG).1
      subst hv2
      clear hG
      go_wp2
      go_ret
      exact ⟨rfl, ((Below.refl _ w).alloc (Nat.le_refl _) _).trans ((unhide HG).2.mono (by simp))⟩
end Go.Proofs.Ytlkcjimkgebeiaa
