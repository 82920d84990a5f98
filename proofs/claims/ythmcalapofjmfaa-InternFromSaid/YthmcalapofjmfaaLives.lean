/-
  lives.
-/
import Derived.Test.YthmcalapofjmfaaOX
namespace Go.Proofs.Ythmcalapofjmfaa
open Go.RowKit Go.Maps
set_option linter.unusedVariables false

def one : ByteArray := ⟨#[111, 110, 101]⟩
def two : ByteArray := ⟨#[116, 119, 111]⟩
def three : ByteArray := ⟨#[116, 104, 114, 101, 101]⟩

set_option maxRecDepth 100000 in
set_option maxHeartbeats 1600000 in
theorem lives_any (w : World) : Calls Try.prog 30 #[] w fun e w' => e = .returned (.bool true) ∧ Below w.heap.size w w' := by
  have hNew := hide (OX.new w w (Below.refl _ _))
  go_enter Try.func30, Try.ntmps30
  go_wp2_with fail
  refine (unhide hNew).mono ?_
  rintro e w1 ⟨p, rfl, hp, hO⟩
  have hA := hide (hO.add one (by decide) (by decide))
  clear hO hNew hp
  rw [show num [] one = 0 from by decide +kernel] at hA
  go_wp2_with fail
  refine (unhide hA).mono ?_
  rintro e w2 ⟨rfl, hO⟩
  rw [show ins [] one = [one] from by decide +kernel] at hO
  have hB := hide (hO.add two (by decide) (by decide))
  rw [show num [one] two = 1 from by decide +kernel] at hB
  clear hO hA
  go_wp2_with fail
  refine (unhide hB).mono ?_
  rintro e w3 ⟨rfl, hO⟩
  rw [show ins [one] two = [one, two] from by decide +kernel] at hO
  have hC := hide (hO.add one (by decide) (by decide))
  rw [show num [one, two] one = 0 from by decide +kernel] at hC
  clear hO hB
  go_wp2_with fail
  refine (unhide hC).mono ?_
  rintro e w4 ⟨rfl, hO⟩
  rw [show ins [one, two] one = [one, two] from by decide +kernel] at hO
  have hD := hide (hO.find two (by decide))
  rw [show idx [one, two] two = some 1 from by decide +kernel] at hD
  simp only [Option.getD_some, Option.isSome_some] at hD
  have hE := hide (hO.find three (by decide))
  rw [show idx [one, two] three = none from by decide +kernel] at hE
  simp only [Option.getD_none, Option.isSome_none] at hE
  have hL := hide hO.len
  have HB := hide hO.bel
  clear hO hC
  go_wp2_with fail
  refine (unhide hD).mono ?_
  rintro e w5 ⟨rfl, hw5⟩
  rw [hw5]
  clear hw5 w5 hD
  go_wp2_with fail
  refine (unhide hE).mono ?_
  rintro e w5 ⟨rfl, hw5⟩
  rw [hw5]
  clear hw5 w5 hE
  go_wp2_with fail
  refine (unhide hL).mono ?_
  rintro e w5 ⟨rfl, hw5⟩
  rw [hw5]
  clear hw5 w5 hL
  go_wp2
  go_ret
  exact ⟨rfl, unhide HB⟩
end Go.Proofs.Ythmcalapofjmfaa
