/-
  Text of a reader.
-/
import Derived.Test.YtonnkaphomonpaaRaw
import Derived.Deep.RegionHeld3
import Derived.Lib.BufferRead
import Derived.Laws.IdiomStrings
namespace Go.Proofs.Ytonnkaphomonpaa
open Go.RowKit

/-- The bytes as a string. -/
def toStr (bs : List Int) : ByteArray := ⟨(bs.map fun b => UInt8.ofNat b.toNat).toArray⟩

/-- A text of at most so many bytes. -/
def gText (most : Int) (bs : List Int) : Except Int (Value × List Int) :=
  match unumMost most bs with
  | .error k => .error k
  | .ok (x, t) => if t.length < x then .error 2 else .ok (.string (toStr (t.take x)), t.drop x)

theorem toStr_size (bs : List Int) : (toStr bs).size = bs.length := by
  show ((bs.map fun b => UInt8.ofNat b.toNat).toArray).size = _
  simp
/-- A slice of bytes as a string. -/
theorem str_conv (w : World) (v : Value) (bs : List Int) (h : Rd w v bs) (hB : BOk bs) : (convert 32 9 v).run Try.prog w = .ok (.string (toStr bs)) w := by
  rcases h with ⟨rfl, rfl⟩ | ⟨b, off, cap, rfl, h1, h2, h3, h4⟩
  · exact Lib.run_convert_nil_bytes w 32 9 5 0 Try.underlying32 Try.underlying5 Try.underlying9
  · have h := run_convert_bytes_back (P := Try.prog) w 32 9 5 ⟨b, off, none⟩ cap (bs.map fun b => UInt8.ofNat b.toNat) Try.underlying32 Try.underlying5 Try.underlying9 (by
      intro j hj
      rw [List.length_map] at hj
      rw [addr_add, h4 j hj]
      have hb := hB bs[j] (List.getElem_mem _)
      rw [List.getElem_map, List.getD_eq_getElem?_getD, List.getElem?_eq_getElem hj, Option.getD_some, UInt8.toNat_ofNat']
      congr 2
      omega)
    rw [List.length_map] at h
    exact h
theorem unumMost_ok {most : Int} {bs : List Int} {x : Nat} {t : List Int} (hB : BOk bs) (h : unumMost most bs = .ok (x, t)) : BOk t := by
  unfold unumMost at h
  rcases hu : unum 0 0 bs with k | ⟨y, t'⟩
  · rw [hu] at h; cases h
  · rw [hu] at h
    simp only at h
    split at h
    · cases h
    · cases h
      exact (unum_lt 0 0 bs x t (by omega) (by simp) hB hu).2

theorem Rdr.drew {w : World} {r rb : Nat} {v : Value} {bs : List Int} {e : Int} (h : Rdr w r rb v bs e) : Rdr w.drew r rb v bs e :=
  h.keep (S := fun _ => False) (Fr.refl _ _).drew (by simp) (by simp)

end Go.Proofs.Ytonnkaphomonpaa
