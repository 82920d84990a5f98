/-
  The standard's own digests.
-/
import Derived.Test.YtlkcjimkgebeiaaDoorHex
import Derived.Lib.SlBytesConst
namespace Go.Proofs.YtlkcjimkgebeiaaDoor
open Go.RowKit

def m0 : List Int := []
def m1 : List Int := [97, 98, 99]
def m2 : List Int := [97, 98, 99, 100, 98, 99, 100, 101, 99, 100, 101, 102, 100, 101, 102, 103, 101, 102, 103, 104, 102, 103, 104, 105, 103, 104, 105, 106, 104, 105, 106, 107, 105, 106, 107, 108, 106, 107, 108, 109, 107, 108, 109, 110, 108, 109, 110, 111, 109, 110, 111, 112, 110, 111, 112, 113]
def s0 : ByteArray := ⟨#[101, 51, 98, 48, 99, 52, 52, 50, 57, 56, 102, 99, 49, 99, 49, 52, 57, 97, 102, 98, 102, 52, 99, 56, 57, 57, 54, 102, 98, 57, 50, 52, 50, 55, 97, 101, 52, 49, 101, 52, 54, 52, 57, 98, 57, 51, 52, 99, 97, 52, 57, 53, 57, 57, 49, 98, 55, 56, 53, 50, 98, 56, 53, 53]⟩
theorem shown0 : toStr (hexB (digF m0)) = s0 := by kernel_rfl
def s1 : ByteArray := ⟨#[98, 97, 55, 56, 49, 54, 98, 102, 56, 102, 48, 49, 99, 102, 101, 97, 52, 49, 52, 49, 52, 48, 100, 101, 53, 100, 97, 101, 50, 50, 50, 51, 98, 48, 48, 51, 54, 49, 97, 51, 57, 54, 49, 55, 55, 97, 57, 99, 98, 52, 49, 48, 102, 102, 54, 49, 102, 50, 48, 48, 49, 53, 97, 100]⟩
theorem shown1 : toStr (hexB (digF m1)) = s1 := by kernel_rfl
def s2 : ByteArray := ⟨#[50, 52, 56, 100, 54, 97, 54, 49, 100, 50, 48, 54, 51, 56, 98, 56, 101, 53, 99, 48, 50, 54, 57, 51, 48, 99, 51, 101, 54, 48, 51, 57, 97, 51, 51, 99, 101, 52, 53, 57, 54, 52, 102, 102, 50, 49, 54, 55, 102, 54, 101, 99, 101, 100, 100, 52, 49, 57, 100, 98, 48, 54, 99, 49]⟩
theorem shown2 : toStr (hexB (digF m2)) = s2 := by kernel_rfl

theorem lit_rd (w : World) (bs : List Int) (fr : Nat × Nat) (h0 : bs.length ≤ maxLen) : Rd (w.alloc (.cells (Ar .u8 bs) 5 fr)) (.slice (some ⟨w.heap.size, 0, none⟩) bs.length bs.length) bs := by
  refine .inr ⟨w.heap.size, 0, bs.length, rfl, Nat.le_refl _, h0, by simp, fun i hi => ?_⟩
  rw [cell_of_row _ _ (0 + i) _ 5 fr (heap_alloc_last w _), Nat.zero_add]
  exact Ar_get .u8 bs i hi
theorem m1_bok : BOk m1 := by unfold BOk m1; decide
theorem m2_bok : BOk m2 := by unfold BOk m2; decide
theorem digF_bok (B : List Int) : BOk (digF B) := byF_bok _ 32

set_option maxHeartbeats 3200000 in
set_option maxRecDepth 100000 in
theorem shown_any (w : World) (hK : KT w) : Calls Tryd.prog 16 #[] w fun e w' => e = .returned (.bool true) ∧ Below w.heap.size w w' := by
  have hh := hide (fun B => hex_any (digF B) (digF_len B) (digF_bok B))
  have hC0 := hide (dsum_any (.slice none 0 0) m0 w (.inl ⟨rfl, rfl⟩) (fun b hb => by simp [m0] at hb) (by simp [m0]) hK)
  have HK := hide hK
  have H0 := hide hK.2
  clear hK
  go_enter Tryd.func16, Tryd.ntmps16
  go_wp2_with fail
  refine (unhide hC0).mono ?_
  rintro e w1 ⟨rfl, hb1⟩
  go_wp2_with fail
  refine (unhide hh m0 _).mono ?_
  rintro e w2 ⟨rfl, hb2⟩
  rw [shown0]
  have HB2 : Hid (Below w.heap.size w w2) := hb1.trans (hb2.mono hb1.size)
  clear hb1 hb2 hC0
  generalize hs0 : s0 = t0 at *
  have hcv := fun (w : World) (C : Array Value) (n c : Nat) => Lib.run_convert_bytes_const (P := Tryd.prog) w 22 5 C n c Tryd.underlying22 Tryd.underlying5
  have hKK1 : KT (w2.alloc (.cells (Ar .u8 m1) 5 (3, 4))) := ((unhide HK).below (unhide H0) (unhide HB2)).alloc _
  have hRd1 : Rd (w2.alloc (.cells (Ar .u8 m1) 5 (3, 4))) (.slice (some ⟨w2.heap.size, 0, none⟩) 3 3) m1 := lit_rd w2 m1 (3, 4) (by unfold maxLen m1; simp)
  have hC1 := hide (dsum_any _ m1 _ hRd1 m1_bok (by simp [m1]) hKK1)
  clear hKK1 hRd1
  go_wp2_with fail
  refine (unhide hC1).mono ?_
  rintro e w3 ⟨rfl, hb1⟩
  go_wp2_with fail
  refine (unhide hh m1 _).mono ?_
  rintro e w4 ⟨rfl, hb2⟩
  rw [shown1]
  have HBw4 : Hid (Below w.heap.size w w4) := ((unhide HB2).alloc (unhide HB2).size _).trans ((hb1.trans (hb2.mono hb1.size)).mono (by have := (unhide HB2).size; simp; omega))
  clear hb1 hb2 hC1
  have hKK2 : KT (w4.alloc (.cells (Ar .u8 m2) 5 (56, 57))) := ((unhide HK).below (unhide H0) (unhide HBw4)).alloc _
  have hRd2 : Rd (w4.alloc (.cells (Ar .u8 m2) 5 (56, 57))) (.slice (some ⟨w4.heap.size, 0, none⟩) 56 56) m2 := lit_rd w4 m2 (56, 57) (by unfold maxLen m2; simp)
  have hC2 := hide (dsum_any _ m2 _ hRd2 m2_bok (by simp [m2]) hKK2)
  clear hKK2 hRd2
  go_wp2_with fail
  refine (unhide hC2).mono ?_
  rintro e w5 ⟨rfl, hb1⟩
  go_wp2_with fail
  refine (unhide hh m2 _).mono ?_
  rintro e w6 ⟨rfl, hb2⟩
  rw [shown2]
  have HBw6 : Hid (Below w.heap.size w w6) := ((unhide HBw4).alloc (unhide HBw4).size _).trans ((hb1.trans (hb2.mono hb1.size)).mono (by have := (unhide HBw4).size; simp; omega))
  clear hb1 hb2 hC2
  subst hs0
  have q0 : s0.toList = [101, 51, 98, 48, 99, 52, 52, 50, 57, 56, 102, 99, 49, 99, 49, 52, 57, 97, 102, 98, 102, 52, 99, 56, 57, 57, 54, 102, 98, 57, 50, 52, 50, 55, 97, 101, 52, 49, 101, 52, 54, 52, 57, 98, 57, 51, 52, 99, 97, 52, 57, 53, 57, 57, 49, 98, 55, 56, 53, 50, 98, 56, 53, 53] := by kernel_rfl
  have q1 : s1.toList = [98, 97, 55, 56, 49, 54, 98, 102, 56, 102, 48, 49, 99, 102, 101, 97, 52, 49, 52, 49, 52, 48, 100, 101, 53, 100, 97, 101, 50, 50, 50, 51, 98, 48, 48, 51, 54, 49, 97, 51, 57, 54, 49, 55, 55, 97, 57, 99, 98, 52, 49, 48, 102, 102, 54, 49, 102, 50, 48, 48, 49, 53, 97, 100] := by kernel_rfl
  have q2 : s2.toList = [50, 52, 56, 100, 54, 97, 54, 49, 100, 50, 48, 54, 51, 56, 98, 56, 101, 53, 99, 48, 50, 54, 57, 51, 48, 99, 51, 101, 54, 48, 51, 57, 97, 51, 51, 99, 101, 52, 53, 57, 54, 52, 102, 102, 50, 49, 54, 55, 102, 54, 101, 99, 101, 100, 100, 52, 49, 57, 100, 98, 48, 54, 99, 49] := by kernel_rfl
  go_wp2
  go_ret
  exact ⟨rfl, unhide HBw6⟩
end Go.Proofs.YtlkcjimkgebeiaaDoor
