/-
  Names: by the program's table, and by the document's text.
-/
import Derived.Test.YtpceokegcjombaaDoorOps
import Derived.Laws.DeepStrings4
namespace Go.Proofs.YtpceokegcjombaaDoor
open Go.RowKit

/-- The document's text of names. -/
def NM : ByteArray := ⟨((([110, 111, 112, 32, 110, 105, 108, 32, 116, 114, 117, 101, 32, 102, 97, 108, 115, 101, 32, 105, 110, 116, 32, 99, 111, 110, 115, 116, 32, 102, 117, 110, 99, 32, 112, 111, 112, 32, 100].append [117, 112, 32, 115, 119, 97, 112, 32, 108, 111, 97, 100, 32, 115, 116, 111, 114, 101, 32, 97, 100, 100, 32, 115, 117, 98, 32, 109, 117, 108, 32, 100, 105, 118, 32, 114, 101, 109, 32, 110]).append ([101, 103, 32, 97, 110, 100, 32, 111, 114, 32, 120, 111, 114, 32, 110, 111, 116, 32, 115, 104, 108, 32, 115, 104, 114, 32, 101, 120, 116, 32, 101, 113, 32, 110, 101, 32, 108, 116, 32].append [108, 101, 32, 116, 101, 115, 116, 32, 102, 108, 105, 112, 32, 116, 111, 105, 110, 116, 32, 116, 111, 114, 101, 97, 108, 32, 115, 105, 110, 103, 108, 101, 32, 116, 111, 116, 101, 120, 116, 32])).append (([107, 105, 110, 100, 32, 102, 108, 111, 111, 114, 32, 115, 113, 114, 116, 32, 99, 97, 116, 32, 99, 117, 116, 32, 106, 117, 109, 112, 32, 106, 122, 32, 106, 110, 122, 32, 99, 97, 108].append [108, 32, 114, 101, 116, 32, 116, 104, 114, 111, 119, 32, 98, 105, 110, 100, 32, 97, 114, 114, 97, 121, 32, 114, 101, 99, 111, 114, 100, 32, 103, 101, 116, 32, 115, 101, 116, 32, 112, 117]).append ([115, 104, 32, 108, 101, 110, 32, 103, 101, 116, 102, 32, 115, 101, 116, 102, 32, 104, 97, 115, 102, 32, 100, 101, 108, 102, 32, 107, 101, 121, 115, 32, 112, 114, 105, 110, 116, 32, 114].append [101, 97, 100, 32, 115, 112, 97, 119, 110, 32, 121, 105, 101, 108, 100, 32, 99, 104, 97, 110, 32, 115, 101, 110, 100, 32, 114, 101, 99, 118, 32, 115, 104, 117, 116, 32, 98, 105, 99, 32]))).toArray⟩
/-- How many names end ahead of a place, and where the next begins. -/
def cntL : List Nat := [0, 0, 0, 0, 1, 1, 1, 1, 2, 2, 2, 2, 2, 3, 3, 3, 3, 3, 3, 4, 4, 4, 4, 5, 5, 5, 5, 5, 5, 6, 6, 6, 6, 6, 7, 7, 7, 7, 8, 8, 8, 8, 9, 9, 9, 9, 9, 10, 10, 10, 
  10, 10, 11, 11, 11, 11, 11, 11, 12, 12, 12, 12, 13, 13, 13, 13, 14, 14, 14, 14, 15, 15, 15, 15, 16, 16, 16, 16, 17, 17, 17, 17, 18, 18, 18, 18, 19, 19, 
  19, 20, 20, 20, 20, 21, 21, 21, 21, 22, 22, 22, 22, 23, 23, 23, 23, 24, 24, 24, 24, 25, 25, 25, 26, 26, 26, 27, 27, 27, 28, 28, 28, 29, 29, 29, 29, 29, 
  30, 30, 30, 30, 30, 31, 31, 31, 31, 31, 31, 32, 32, 32, 32, 32, 32, 32, 33, 33, 33, 33, 33, 33, 33, 34, 34, 34, 34, 34, 34, 34, 35, 35, 35, 35, 35, 36, 
  36, 36, 36, 36, 36, 37, 37, 37, 37, 37, 38, 38, 38, 38, 39, 39, 39, 39, 40, 40, 40, 40, 40, 41, 41, 41, 42, 42, 42, 42, 43, 43, 43, 43, 43, 44, 44, 44, 
  44, 45, 45, 45, 45, 45, 45, 46, 46, 46, 46, 46, 47, 47, 47, 47, 47, 47, 48, 48, 48, 48, 48, 48, 48, 49, 49, 49, 49, 50, 50, 50, 50, 51, 51, 51, 51, 51, 
  52, 52, 52, 52, 53, 53, 53, 53, 53, 54, 54, 54, 54, 54, 55, 55, 55, 55, 55, 56, 56, 56, 56, 56, 57, 57, 57, 57, 57, 58, 58, 58, 58, 58, 58, 59, 59, 59, 
  59, 59, 60, 60, 60, 60, 60, 60, 61, 61, 61, 61, 61, 61, 62, 62, 62, 62, 62, 63, 63, 63, 63, 63, 64, 64, 64, 64, 64, 65, 65, 65, 65, 65, 66, 66, 66, 66, 
  67]
def frL : List Nat := [0, 0, 0, 0, 4, 4, 4, 4, 8, 8, 8, 8, 8, 13, 13, 13, 13, 13, 13, 19, 19, 19, 19, 23, 23, 23, 23, 23, 23, 29, 29, 29, 29, 29, 34, 34, 34, 34, 38, 38, 38, 
  38, 42, 42, 42, 42, 42, 47, 47, 47, 47, 47, 52, 52, 52, 52, 52, 52, 58, 58, 58, 58, 62, 62, 62, 62, 66, 66, 66, 66, 70, 70, 70, 70, 74, 74, 74, 74, 78, 
  78, 78, 78, 82, 82, 82, 82, 86, 86, 86, 89, 89, 89, 89, 93, 93, 93, 93, 97, 97, 97, 97, 101, 101, 101, 101, 105, 105, 105, 105, 109, 109, 109, 112, 112, 
  112, 115, 115, 115, 118, 118, 118, 121, 121, 121, 121, 121, 126, 126, 126, 126, 126, 131, 131, 131, 131, 131, 131, 137, 137, 137, 137, 137, 137, 137, 144, 
  144, 144, 144, 144, 144, 144, 151, 151, 151, 151, 151, 151, 151, 158, 158, 158, 158, 158, 163, 163, 163, 163, 163, 163, 169, 169, 169, 169, 169, 174, 174, 
  174, 174, 178, 178, 178, 178, 182, 182, 182, 182, 182, 187, 187, 187, 190, 190, 190, 190, 194, 194, 194, 194, 194, 199, 199, 199, 199, 203, 203, 203, 203, 
  203, 203, 209, 209, 209, 209, 209, 214, 214, 214, 214, 214, 214, 220, 220, 220, 220, 220, 220, 220, 227, 227, 227, 227, 231, 231, 231, 231, 235, 235, 235, 
  235, 235, 240, 240, 240, 240, 244, 244, 244, 244, 244, 249, 249, 249, 249, 249, 254, 254, 254, 254, 254, 259, 259, 259, 259, 259, 264, 264, 264, 264, 264, 
  269, 269, 269, 269, 269, 269, 275, 275, 275, 275, 275, 280, 280, 280, 280, 280, 280, 286, 286, 286, 286, 286, 286, 292, 292, 292, 292, 292, 297, 297, 297, 
  297, 297, 302, 302, 302, 302, 302, 307, 307, 307, 307, 307, 312, 312, 312, 312, 316]
def cnt (i : Nat) : Nat := cntL.getD i 0
def frm (i : Nat) : Nat := frL.getD i 0
def bN (i : Nat) : Nat := (NM.data.toList.getD i 0).toNat

theorem NM_size : NM.size = 316 := by decide +kernel
theorem NM_at (i : Nat) (h : i < 316) : NM[i]? = some (UInt8.ofNat (bN i)) := by
  have : ∀ i : Fin 316, NM[i.val]? = some (UInt8.ofNat (bN i.val)) := by decide +kernel
  exact this ⟨i, h⟩
theorem bN_lt (i : Nat) : bN i < 256 := by unfold bN; exact UInt8.toNat_lt _
theorem cnt_end : cnt 316 = 67 := by decide +kernel
theorem cnt_same (i : Nat) (h : i < 316) (hb : bN i ≠ 32) : cnt (i + 1) = cnt i ∧ frm (i + 1) = frm i := by
  have : ∀ i : Fin 316, bN i.val ≠ 32 → cnt (i.val + 1) = cnt i.val ∧ frm (i.val + 1) = frm i.val := by decide +kernel
  exact this ⟨i, h⟩ hb
theorem cnt_next (i : Nat) (h : i < 316) (hb : bN i = 32) : cnt (i + 1) = cnt i + 1 ∧ frm (i + 1) = i + 1 := by
  have : ∀ i : Fin 316, bN i.val = 32 → cnt (i.val + 1) = cnt i.val + 1 ∧ frm (i.val + 1) = i.val + 1 := by decide +kernel
  exact this ⟨i, h⟩ hb
theorem cnt_word (i : Nat) (h : i < 316) (hb : bN i = 32) : cnt i < 67 ∧ frm i ≤ i ∧ NM.extract (frm i) i = nm (cnt i) := by
  have : ∀ i : Fin 316, bN i.val = 32 → cnt i.val < 67 ∧ frm i.val ≤ i.val ∧ (NM.extract (frm i.val) i.val).data.toList = (nm (cnt i.val)).data.toList := by decide +kernel
  obtain ⟨h1, h2, h3⟩ := this ⟨i, h⟩ hb
  exact ⟨h1, h2, ByteArray.ext (Array.toList_inj.1 h3)⟩

/-- The name of any number. -/
def nmI (op : Int) : ByteArray := if isOp op then nm op.toNat else ByteArray.empty
theorem nmI_nat {k : Nat} (h : k < 67) : nmI (k : Int) = nm k := by rw [nmI, isOp_nat h]; simp
theorem nmI_no {op : Int} (h : ¬ (0 ≤ op ∧ op < 67)) : nmI op = ByteArray.empty := by rw [nmI, isOp_no h]; simp

set_option maxRecDepth 100000 in
set_option maxHeartbeats 1000000 in
theorem name_any (w : World) (op : Int) : Calls Tryd.prog 16 #[.int .i64 op] w fun e w' => e = .returned (.tuple #[.string (nmI op), .bool (isOp op)]) ∧ w' = w := by
  by_cases h : 0 ≤ op ∧ op < 67
  · obtain ⟨k, rfl⟩ : ∃ k : Nat, op = k := ⟨op.toNat, by omega⟩
    have hk : k < 67 := by omega
    rw [nmI_nat hk, isOp_nat hk]
    have H1 := hide (known_any w (k : Int))
    have hd : decide (0 ≤ (k : Int) ∧ (k : Int) < 67) = true := by simpa using h
    rw [hd] at H1
    have H2 := hide (nameOf_any w k hk)
    generalize nm k = s at *
    clear h hd hk
    go_enter Tryd.func16, Tryd.ntmps16
    go_wp2_with fail
    refine (unhide H1).mono ?_
    rintro e w' ⟨rfl, rfl⟩
    go_wp2_with fail
    refine (unhide H2).mono ?_
    rintro e w1 ⟨rfl, rfl⟩
    go_wp2
    go_ret2
    exact ⟨rfl, rfl⟩
  · rw [nmI_no h, isOp_no h]
    have H1 := hide (known_any w op)
    have hd : decide (0 ≤ op ∧ op < 67) = false := by simpa using h
    rw [hd] at H1
    clear h hd
    go_enter Tryd.func16, Tryd.ntmps16
    go_wp2_with fail
    refine (unhide H1).mono ?_
    rintro e w' ⟨rfl, rfl⟩
    go_wp2
    go_ret2
    exact ⟨rfl, rfl⟩

set_option maxRecDepth 100000 in
set_option maxHeartbeats 1000000 in
theorem dName_any (w : World) (op : Int) : Calls Tryd.prog 9 #[.int .i64 op] w fun e w' => e = .returned (.tuple #[.string (nmI op), .bool (isOp op)]) ∧ w' = w := by
  have hA := hide NM_at
  have hS := NM_size
  obtain ⟨an, han⟩ : ∃ s, Hid (s = nmI op) := ⟨_, rfl⟩
  obtain ⟨ab, hab⟩ : ∃ b, Hid (b = isOp op) := ⟨_, rfl⟩
  rw [← unhide han, ← unhide hab]
  go_enter Tryd.func9, Tryd.ntmps9
  generalize hM : ByteArray.mk (((([110, 111, 112, 32, 110, 105, 108, 32, 116, 114, 117, 101, 32, 102, 97, 108, 115, 101, 32, 105, 110, 116, 32, 99, 111, 110, 115, 116, 32, 102, 117, 110, 99, 32, 112, 111, 112, 32, 100].append [117, 112, 32, 115, 119, 97, 112, 32, 108, 111, 97, 100, 32, 115, 116, 111, 114, 101, 32, 97, 100, 100, 32, 115, 117, 98, 32, 109, 117, 108, 32, 100, 105, 118, 32, 114, 101, 109, 32, 110]).append ([101, 103, 32, 97, 110, 100, 32, 111, 114, 32, 120, 111, 114, 32, 110, 111, 116, 32, 115, 104, 108, 32, 115, 104, 114, 32, 101, 120, 116, 32, 101, 113, 32, 110, 101, 32, 108, 116, 32].append [108, 101, 32, 116, 101, 115, 116, 32, 102, 108, 105, 112, 32, 116, 111, 105, 110, 116, 32, 116, 111, 114, 101, 97, 108, 32, 115, 105, 110, 103, 108, 101, 32, 116, 111, 116, 101, 120, 116, 32])).append (([107, 105, 110, 100, 32, 102, 108, 111, 111, 114, 32, 115, 113, 114, 116, 32, 99, 97, 116, 32, 99, 117, 116, 32, 106, 117, 109, 112, 32, 106, 122, 32, 106, 110, 122, 32, 99, 97, 108].append [108, 32, 114, 101, 116, 32, 116, 104, 114, 111, 119, 32, 98, 105, 110, 100, 32, 97, 114, 114, 97, 121, 32, 114, 101, 99, 111, 114, 100, 32, 103, 101, 116, 32, 115, 101, 116, 32, 112, 117]).append ([115, 104, 32, 108, 101, 110, 32, 103, 101, 116, 102, 32, 115, 101, 116, 102, 32, 104, 97, 115, 102, 32, 100, 101, 108, 102, 32, 107, 101, 121, 115, 32, 112, 114, 105, 110, 116, 32, 114].append [101, 97, 100, 32, 115, 112, 97, 119, 110, 32, 121, 105, 101, 108, 100, 32, 99, 104, 97, 110, 32, 115, 101, 110, 100, 32, 114, 101, 99, 118, 32, 115, 104, 117, 116, 32, 98, 105, 99, 32]))).toArray) = M at *
  have hM' : Hid (NM = M) := hM
  clear hM
  rw [unhide hM'] at hA hS
  go_wp2
  go_loopg [4, 5, 6] 316 (fun g t4 t5 t6 wr => ∃ (i : Nat), Hid (i + g = 316) ∧ t4 = .int .i64 (cnt i : Int) ∧ t5 = .int .i64 (frm i : Int) ∧ t6 = .int .i64 (i : Int) ∧ wr = w ∧ Hid (op < 0 ∨ (cnt i : Int) ≤ op))
  case atStart => exact ⟨0, rfl, rfl, rfl, rfl, rfl, by unfold Hid; have : cnt 0 = 0 := rfl; omega⟩
  case round =>
    obtain ⟨i, hi, rfl, rfl, rfl, rfl, hop⟩ := hrel
    by_cases hlt : i < 316
    · have hb : ∀ h, (M[i]'h).toNat = bN i := fun h => by
        have e := unhide hA i hlt
        rw [getElem?_pos M i h] at e
        rw [Option.some.inj e, UInt8.toNat_ofNat', Nat.mod_eq_of_lt (bN_lt i)]
      by_cases h32 : bN i = 32
      · obtain ⟨w1, w2, w3⟩ := cnt_word i hlt h32
        rw [unhide hM'] at w3
        have HN := hide (cnt_next i hlt h32)
        rw [h32] at hb
        clear h32
        have HW := hide w3
        have hcl : (cnt i : Int) < 67 := by omega
        clear w3
        have hi' : i ≤ M.size := by omega
        by_cases he : (cnt i : Int) = op
        · have HE : Hid (an = nm (cnt i) ∧ ab = true) := by unfold Hid; rw [unhide han, unhide hab, ← he]; exact ⟨nmI_nat w1, isOp_nat w1⟩
          clear w1 HN hop
          generalize cnt i = c at *
          generalize frm i = f at *
          subst he
          go_wp2
          go_ret2
          rw [(unhide HE).1, (unhide HE).2, ← unhide HW]
          exact ⟨rfl, rfl⟩
        · have he' : ((cnt i : Int) == op) = false := by simpa using he
          generalize hc : cnt i = c at *
          generalize hf : frm i = f at *
          have HC := hide hc
          have HE := hide he
          clear hc hf w1 w2 HW he
          go_wp2
          go_roundg (gk - 1)
          case measure => have := unhide hi; omega
          case rel =>
            refine ⟨i + 1, ?_, ?_, ?_, ?_, rfl, ?_⟩
            · have := unhide hi; unfold Hid; omega
            · rw [(unhide HN).1]; go_num
            · rw [(unhide HN).2]; go_num
            · go_num
            · unfold Hid; have h1 := unhide hop; have h2 := (unhide HN).1; have h3 := unhide HE; omega
      · have HN := hide (cnt_same i hlt h32)
        have hne : ((bN i : Int) != 32) = true := by simp; omega
        clear h32
        go_wp2
        go_roundg (gk - 1)
        case measure => have := unhide hi; omega
        case rel =>
          refine ⟨i + 1, ?_, ?_, ?_, ?_, rfl, ?_⟩
          · have := unhide hi; unfold Hid; omega
          · rw [(unhide HN).1]
          · rw [(unhide HN).2]
          · go_num
          · unfold Hid; have h1 := unhide hop; have h2 := (unhide HN).1; omega
    · have hi0 : i = 316 := by have := unhide hi; omega
      subst hi0
      have HC : Hid (ab = false ∧ an = ByteArray.empty) := by
        have h1 := unhide hop
        rw [cnt_end] at h1
        have h2 : ¬ (0 ≤ op ∧ op < 67) := by omega
        unfold Hid
        rw [unhide han, unhide hab]
        exact ⟨isOp_no h2, nmI_no h2⟩
      go_wp2
      go_ret2
      rw [(unhide HC).1, (unhide HC).2]
      exact ⟨rfl, rfl⟩
end Go.Proofs.YtpceokegcjombaaDoor
