/-
  The document's reader: Word.
-/
import Derived.Test.YtonnkaphomonpaaRef5
namespace Go.Proofs.Ytonnkaphomonpaa
open Go.RowKit

theorem wnum_bd (l : List Int) (hB : BOk l) : wnum 0 l < 256 ^ l.length := by
  have h := wnum_top l 0 hB
  exact (Nat.div_eq_zero_iff_lt (Nat.pow_pos (by omega))).1 h

end Go.Proofs.Ytonnkaphomonpaa
