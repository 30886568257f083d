/-
  Plain facts on the digits of a decimal: behind the point, as the program prints them and as the model does.
-/
import Derived.Test.YthaedmldlenhgaaGreatDoorMulPure
import Derived.Laws.BytesArg
namespace Go.Proofs.YthaedmldlenhgaaGreatDoor.TextPure
open Go Go.RowKit
open Go.Proofs.YthaedmldlenhgaaGreatDoor.DecPure
set_option linter.unusedVariables false

/-- The digits behind the point, from a rest of less than a million on: none where nothing is left. -/
def fracD : Nat → Int → List Int
  | 0, _ => []
  | k + 1, r => if r = 0 then [] else (48 + r * 10 / 1000000) :: fracD k (r * 10 % 1000000)
theorem fracD_zero (k : Nat) : fracD k 0 = [] := by cases k <;> simp [fracD]
theorem fracD_step (k : Nat) {r : Int} (h : r ≠ 0) : fracD (k + 1) r = (48 + r * 10 / 1000000) :: fracD k (r * 10 % 1000000) := by rw [fracD, if_neg h]
/-- The rest after k digits. -/
def fracR (r : Int) : Nat → Int
  | 0 => r
  | k + 1 => fracR r k * 10 % 1000000
theorem fracR_six (r : Int) : fracR r 6 = 0 := by simp only [fracR]; omega
theorem fracR_bd (r : Int) (h : 0 ≤ r ∧ r < 1000000) : ∀ k, 0 ≤ fracR r k ∧ fracR r k < 1000000
  | 0 => h
  | k + 1 => by have := fracR_bd r h k; simp only [fracR]; omega
/-- The text behind the point, with it. -/
def fracL (n : Int) : List Int := if absV n % 1000000 = 0 then [] else 46 :: fracD 6 (absV n % 1000000)
theorem strs {a b : ByteArray} (h : a = b) : Ending.returned (.string a) = .returned (.string b) := by rw [h]
end Go.Proofs.YthaedmldlenhgaaGreatDoor.TextPure
