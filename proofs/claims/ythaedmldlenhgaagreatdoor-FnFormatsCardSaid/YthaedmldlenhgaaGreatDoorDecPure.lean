/-
  Plain facts on decimals as integers: what each function of the first chapter comes to, without any Go text.
-/
import Derived.WalkKit
import Derived.RowKit3
import Derived.Deep.QuietTactic
namespace Go.Proofs.YthaedmldlenhgaaGreatDoor.DecPure
open Go Go.RowKit
set_option linter.unusedVariables false

def dOk (n : Int) : Bool := decide (-9000000000000 ≤ n ∧ n ≤ 9000000000000)
theorem dOk_yes {n : Int} (h : dOk n = true) : -9000000000000 ≤ n ∧ n ≤ 9000000000000 := by
  simpa [dOk] using h
theorem dOk_no {n : Int} (h : ¬ dOk n = true) : n < -9000000000000 ∨ 9000000000000 < n := by
  simp [dOk] at h; omega
theorem dOk_of {n : Int} (h : -9000000000000 ≤ n ∧ n ≤ 9000000000000) : dOk n = true := by
  simp [dOk, h]
theorem dOk_not {n : Int} (h : n < -9000000000000 ∨ 9000000000000 < n) : dOk n = false := by
  simp [dOk]; omega
theorem no_eq {b : Bool} (h : ¬ b = true) : b = false := by simpa using h
theorem tup2 {k : IntKind} {a b : Int} {c d : Bool} (h : a = b) (g : c = d) : Ending.returned (.tuple #[.int k a, .bool c]) = .returned (.tuple #[.int k b, .bool d]) := by rw [h, g]
theorem retI {k : IntKind} {a b : Int} (h : a = b) : Ending.returned (.int k a) = .returned (.int k b) := by rw [h]
theorem retB {a b : Bool} (h : a = b) : Ending.returned (.bool a) = .returned (.bool b) := by rw [h]

/-- A number if it is a decimal, else 0. -/
def mkV (n : Int) : Int := if dOk n = true then n else 0
theorem mkV_yes {n : Int} (h : dOk n = true) : mkV n = n := by simp [mkV, h]
theorem mkV_no {n : Int} (h : dOk n = false) : mkV n = 0 := by simp [mkV, h]

def addV (a b : Int) : Int := if (dOk a && dOk b) = true then mkV (a + b) else 0
def addB (a b : Int) : Bool := dOk a && dOk b && dOk (a + b)
def subV (a b : Int) : Int := if (dOk a && dOk b) = true then mkV (a - b) else 0
def subB (a b : Int) : Bool := dOk a && dOk b && dOk (a - b)
def divV (a b : Int) : Int := if (dOk a && dOk b && !(b == 0)) = true then mkV ((a * 1000000).tdiv b) else 0
def divB (a b : Int) : Bool := dOk a && dOk b && !(b == 0) && dOk ((a * 1000000).tdiv b)
def modV (a b : Int) : Int := if (dOk a && dOk b && !(b == 0)) = true then a.tmod b else 0
def modB (a b : Int) : Bool := dOk a && dOk b && !(b == 0)
def intV (n : Int) : Int := if dOk n = true then n - n.tmod 1000000 else 0
def negV (n : Int) : Int := if dOk n = true then -n else 0
def fracV (n : Int) : Int := if dOk n = true then n.tmod 1000000 else 0
def cmp3 (a b : Int) : Int := if a < b then -1 else if b < a then 1 else 0
def cmpV (a b : Int) : Int := if (dOk a && dOk b) = true then cmp3 a b else 0
theorem tdiv_tmod (n : Int) : n.tdiv 1000000 * 1000000 = n - n.tmod 1000000 := by
  have := Int.mul_tdiv_add_tmod n 1000000; omega
theorem tmod_bd (n : Int) : -1000000 < n.tmod 1000000 ∧ n.tmod 1000000 < 1000000 := by
  rcases Int.le_total 0 n with h | h
  · rw [Int.tmod_eq_emod_of_nonneg h]; omega
  · have : n.tmod 1000000 = -((-n).tmod 1000000) := by rw [Int.neg_tmod]; omega
    rw [this, Int.tmod_eq_emod_of_nonneg (by omega)]; omega
theorem tmod_le (n : Int) : (0 ≤ n → 0 ≤ n.tmod 1000000 ∧ n.tmod 1000000 ≤ n) ∧ (n ≤ 0 → n ≤ n.tmod 1000000 ∧ n.tmod 1000000 ≤ 0) := by
  constructor
  · intro h; rw [Int.tmod_eq_emod_of_nonneg h]; omega
  · intro h
    have : n.tmod 1000000 = -((-n).tmod 1000000) := by rw [Int.neg_tmod]; omega
    rw [this, Int.tmod_eq_emod_of_nonneg (by omega)]; omega
theorem intV_bd (n : Int) : -9000000000000 ≤ intV n ∧ intV n ≤ 9000000000000 := by
  unfold intV; split
  · rename_i h
    have h1 := dOk_yes h
    have h2 := tmod_le n
    omega
  · omega
theorem mkV_bd (n : Int) : -9000000000000 ≤ mkV n ∧ mkV n ≤ 9000000000000 := by
  unfold mkV; split
  · rename_i h; exact dOk_yes h
  · omega
theorem tdiv_bd (a b : Int) (h : b ≠ 0) (L : Int) (h1 : -L ≤ a) (h2 : a ≤ L) : -L ≤ a.tdiv b ∧ a.tdiv b ≤ L := by
  have e := Int.natAbs_tdiv_le_natAbs a b
  omega
theorem grown_drewN (w : World) (n : Nat) : Grown w (w.drewN n) := by
  induction n with
  | zero => exact Grown.refl _
  | succ n ih => exact ih.drew
end Go.Proofs.YthaedmldlenhgaaGreatDoor.DecPure
