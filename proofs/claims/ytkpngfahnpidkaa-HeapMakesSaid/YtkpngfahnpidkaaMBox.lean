/-
  Answers of twelve cells.
-/
import Derived.Test.YtkpngfahnpidkaaPAsk3
namespace Go.Proofs.Ytkpngfahnpidkaa
open Go.RowKit
set_option linter.unusedVariables false

/-- An answer's cells. -/
structure SV where
  vk : Int
  vn : Int
  n : Int
  trap : Int
  ok : Bool
  k : Int
  ia : Option Addr
  il : Nat
  ic : Nat
  ka : Option Addr
  kl : Nat
  kc : Nat
  fn : Int
  cap : Int
  shut : Bool
def saidLV (x : SV) : List Value := [.int .i64 x.vk, .int .i64 x.vn, .int .i64 x.n, .int .i64 x.trap, .bool x.ok, .int .i64 x.k, .slice x.ia x.il x.ic, .slice x.ka x.kl x.kc, .int .i64 x.fn, .int .i64 x.cap, .bool x.shut, .slice none 0 0]
def saidV (x : SV) : Array Value := #[.int .i64 x.vk, .int .i64 x.vn, .int .i64 x.n, .int .i64 x.trap, .bool x.ok, .int .i64 x.k, .slice x.ia x.il x.ic, .slice x.ka x.kl x.kc, .int .i64 x.fn, .int .i64 x.cap, .bool x.shut, .slice none 0 0]
def SaidV (w : World) (b : Nat) (x : SV) : Prop := (∀ j (hj : j < 12), w.cell? ⟨b, j, none⟩ = some ((saidLV x)[j]'hj)) ∧ ∀ j, w.frozen? ⟨b, j, none⟩ = false
theorem SaidV.fr {S : Nat → Prop} {w w' : World} {b : Nat} {x : SV} (h : SaidV w b x) (f : Fr S w w') (hn : ¬ S b) : SaidV w' b x := by
  have hb : b < w.heap.size := World.block_lt_of_cell? _ _ (h.1 0 (by omega))
  exact ⟨fun j hj => (f.cell (a := ⟨b, j, none⟩) hb hn).trans (h.1 j hj), fun j => (f.frozen (a := ⟨b, j, none⟩) hb hn).trans (h.2 j)⟩
theorem SaidV.lt {w : World} {b : Nat} {x : SV} (h : SaidV w b x) : b < w.heap.size := World.block_lt_of_cell? _ _ (h.1 0 (by omega))
theorem Said.setV {w : World} {b : Nat} {k n : Int} {ok : Bool} (h : Said w b k n ok) (x : SV) : SaidV (w.setCells b 0 (saidLV x)) b x ∧ Fr (fun q => q = b) w (w.setCells b 0 (saidLV x)) := by
  refine ⟨⟨fun j hj => ?_, fun j => by rw [World.frozen?_setCells]; exact h.2 j⟩, ?_⟩
  · have := World.cell?_setCells_in b (saidLV x) 0 w (fun i hi => by rw [Nat.zero_add, h.1 i hi]; rfl) j hj
    rw [Nat.zero_add] at this
    exact this
  · obtain ⟨r1, r2, r3⟩ := setCells_rest b (saidLV x) 0 w
    exact ⟨r1, r2, r3, by rw [setCells_size]; exact Nat.le_refl _, fun i _ hi => setCells_other b i hi _ _ w⟩
end Go.Proofs.Ytkpngfahnpidkaa
