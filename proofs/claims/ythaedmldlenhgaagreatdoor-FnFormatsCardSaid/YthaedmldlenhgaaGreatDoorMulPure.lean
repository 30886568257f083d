/-
  Plain facts on products of decimals: the product by sizes and signs, and its parts of 64 bits.
-/
import Derived.Test.YthaedmldlenhgaaGreatDoorDecPure
import Derived.Shelf.Bits.Mul64
namespace Go.Proofs.YthaedmldlenhgaaGreatDoor.DecPure
open Go Go.RowKit
set_option linter.unusedVariables false

def absV (n : Int) : Int := if n < 0 then -n else n
theorem absV_neg {n : Int} (h : n < 0) : absV n = -n := by simp [absV, h]
theorem absV_pos {n : Int} (h : 0 ≤ n) : absV n = n := by unfold absV; rw [if_neg (by omega)]
theorem absV_bd {n : Int} (h : dOk n = true) : 0 ≤ absV n ∧ absV n ≤ 9000000000000 := by
  have := dOk_yes h
  unfold absV; split <;> omega
def sizQ (a b : Int) : Int := absV a * absV b / 1000000
theorem sizQ_nn (a b : Int) : 0 ≤ sizQ a b := by
  unfold sizQ
  have h : ∀ n : Int, 0 ≤ absV n := fun n => by unfold absV; split <;> omega
  have := Int.mul_nonneg (h a) (h b)
  omega
def mulQ (a b : Int) : Int := (a * b).tdiv 1000000
theorem mulQ_same {a b : Int} (h : (a < 0 ∧ b < 0) ∨ (0 ≤ a ∧ 0 ≤ b)) : mulQ a b = sizQ a b := by
  unfold mulQ sizQ
  rcases h with ⟨ha, hb⟩ | ⟨ha, hb⟩
  · rw [absV_neg ha, absV_neg hb, Int.neg_mul_neg]
    exact Int.tdiv_eq_ediv_of_nonneg (Int.mul_nonneg_of_nonpos_of_nonpos (by omega) (by omega))
  · rw [absV_pos ha, absV_pos hb]
    exact Int.tdiv_eq_ediv_of_nonneg (Int.mul_nonneg ha hb)
theorem mulQ_diff {a b : Int} (h : (a < 0 ∧ 0 ≤ b) ∨ (0 ≤ a ∧ b < 0)) : mulQ a b = -sizQ a b := by
  unfold mulQ sizQ
  rcases h with ⟨ha, hb⟩ | ⟨ha, hb⟩
  · rw [absV_neg ha, absV_pos hb]
    have e : a * b = -(-a * b) := by rw [Int.neg_mul, Int.neg_neg]
    rw [e, Int.neg_tdiv, Int.tdiv_eq_ediv_of_nonneg (Int.mul_nonneg (by omega) hb)]
  · rw [absV_pos ha, absV_neg hb]
    have e : a * b = -(a * -b) := by rw [Int.mul_neg, Int.neg_neg]
    rw [e, Int.neg_tdiv, Int.tdiv_eq_ediv_of_nonneg (Int.mul_nonneg ha (by omega))]
def mulV (a b : Int) : Int := if (dOk a && dOk b) = true then mkV (mulQ a b) else 0
def mulB (a b : Int) : Bool := dOk a && dOk b && dOk (mulQ a b)

/-- The model's way: whole units first, then the rest. -/
theorem parts_eq (x y : Int) (hx : 0 ≤ x) (hy : 0 ≤ y) : x * y / 1000000 = x / 1000000 * y + x % 1000000 * y / 1000000 := by
  have e : x * y = (x / 1000000 * y) * 1000000 + x % 1000000 * y := by
    rw [show (x / 1000000 * y) * 1000000 = (1000000 * (x / 1000000)) * y from by rw [Int.mul_comm 1000000, Int.mul_assoc, Int.mul_assoc, Int.mul_comm y], ← Int.add_mul, Int.mul_ediv_add_emod]
  rw [e]
  omega
theorem rest_bd (x y : Int) (hx : 0 ≤ x) (hy : 0 ≤ y) (h : y ≤ 9000000000000) : 0 ≤ x % 1000000 * y ∧ x % 1000000 * y ≤ 8999991000000000000 := by
  have h0 : 0 ≤ x % 1000000 := by omega
  have h1 : x % 1000000 ≤ 999999 := by omega
  refine ⟨Int.mul_nonneg h0 hy, ?_⟩
  have a := Int.mul_le_mul h1 h (by omega) (by omega)
  omega
theorem whole_big (x y : Int) (hx : 0 ≤ x) (hy : 0 ≤ y) (h1 : 0 < x / 1000000) (h2 : 9000000000000 / (x / 1000000) < y) : 9000000000000 < x * y / 1000000 := by
  rw [parts_eq x y hx hy]
  have h3 := (Int.ediv_lt_iff_lt_mul h1).1 h2
  have h4 : 0 ≤ x % 1000000 * y := Int.mul_nonneg (by omega) hy
  rw [Int.mul_comm y] at h3
  generalize x / 1000000 * y = p at *
  generalize x % 1000000 * y = q at *
  omega
theorem whole_small (x y : Int) (hx : 0 ≤ x) (hy : 0 ≤ y) (h1 : 0 < x / 1000000) (h2 : y ≤ 9000000000000 / (x / 1000000)) : 0 ≤ x / 1000000 * y ∧ x / 1000000 * y ≤ 9000000000000 := by
  refine ⟨Int.mul_nonneg (by omega) hy, ?_⟩
  have := (Int.le_ediv_iff_mul_le h1).1 h2
  rw [Int.mul_comm]; exact this

/-- The halves of a product, as 64-bit numbers. -/
def hiV (x y : Int) : Int := x * y / 18446744073709551616
def loV (x y : Int) : Int := x * y % 18446744073709551616
/-- The quotient of a number of 128 bits by a million. -/
def dQ (h l : Int) : Int := (h * 18446744073709551616 + l) / 1000000
def dR (h l : Int) : Int := (h * 18446744073709551616 + l) % 1000000
theorem dQ_hilo (x y : Int) : dQ (hiV x y) (loV x y) = x * y / 1000000 := by
  unfold dQ hiV loV
  generalize x * y = p
  omega
theorem loV_bd (x y : Int) : 0 ≤ loV x y ∧ loV x y ≤ 18446744073709551615 := by
  unfold loV; generalize x * y = p; omega
theorem hiV_nn (x y : Int) (hx : 0 ≤ x) (hy : 0 ≤ y) : 0 ≤ hiV x y := by
  have := Int.mul_nonneg hx hy
  unfold hiV; generalize x * y = p at *; omega
theorem hi_big (x y : Int) (h : 1000000 ≤ hiV x y) : 9000000000000 < x * y / 1000000 := by
  unfold hiV at h; generalize x * y = p at *; omega
theorem hi_bd (x y : Int) (hx : 0 ≤ x) (hy : 0 ≤ y) (h1 : x ≤ 9000000000000) (h2 : y ≤ 9000000000000) : hiV x y ≤ 18446744073709551615 := by
  have := Int.mul_le_mul h1 h2 hy (by omega)
  unfold hiV; generalize x * y = p at *; omega

theorem tupU {a b c d : Int} (h : a = b) (g : c = d) : Ending.returned (.tuple #[.int .u64 a, .int .u64 c]) = .returned (.tuple #[.int .u64 b, .int .u64 d]) := by rw [h, g]
theorem castHi (x y : Nat) : ((x * y / 18446744073709551616 : Nat) : Int) = hiV (x : Int) (y : Int) := by
  unfold hiV; rw [Mul64.mulN]; omega
theorem castLo (x y : Nat) : ((x * y % 18446744073709551616 : Nat) : Int) = loV (x : Int) (y : Int) := by
  unfold loV; rw [Mul64.mulN]; omega

/-! The division of a number of 128 bits by a million: its steps. -/
theorem or_eq (h l : Int) (h0 : 0 ≤ h) (h1 : h < 1000000) (h2 : 0 ≤ l) (h3 : l ≤ 18446744073709551615) :
    bits .or .u64 (h * 17592186044416) (l / 1048576) = h * 17592186044416 + l / 1048576 := by
  obtain ⟨a, rfl⟩ := Int.eq_ofNat_of_zero_le h0
  obtain ⟨b, rfl⟩ := Int.eq_ofNat_of_zero_le h2
  have e1 : (a : Int) * 17592186044416 = ((a * 17592186044416 : Nat) : Int) := by omega
  have e2 : (b : Int) / 1048576 = ((b / 1048576 : Nat) : Int) := by omega
  rw [e1, e2, bits_or_u64_nat _ _ (by omega) (by omega)]
  have e3 := Nat.two_pow_add_eq_or_of_lt (i := 44) (b := b / 1048576) (by omega) a
  rw [Nat.mul_comm (2 ^ 44) a] at e3
  have e4 : (2 : Nat) ^ 44 = 17592186044416 := by decide
  rw [e4] at e3
  rw [← e3]
  omega
theorem shl_eq (l : Int) (h2 : 0 ≤ l) (h3 : l ≤ 18446744073709551615) : IntKind.u64.wrap (l * 17592186044416) = (l % 1048576) * 17592186044416 := by
  rw [IntKind.wrap_u64]; omega
theorem and_zero (v : Int) (k : Int) (hk : 0 ≤ k) (hk2 : k ≤ 1048575) (hv : v = k * 17592186044416) : bits .and .u64 v 4294967295 = 0 := by
  obtain ⟨a, rfl⟩ := Int.eq_ofNat_of_zero_le hk
  have e : (a : Int) * 17592186044416 = ((a * 17592186044416 : Nat) : Int) := by omega
  rw [hv, e, Mul64.maskN _ (by omega)]
  omega
theorem and_y : bits .and .u64 17592186044416000000 4294967295 = 0 := by
  have h := Mul64.maskN 17592186044416000000 (by omega)
  have e : ((17592186044416000000 % 4294967296 : Nat) : Int) = 0 := by decide
  rw [e] at h
  exact h
theorem step2 (u v : Int) (h0 : 0 ≤ u) (h1 : u ≤ 17592186044415999999) (h2 : 0 ≤ v) (h3 : v ≤ 18446744073709551615) :
    IntKind.u64.wrap (IntKind.u64.wrap (IntKind.u64.wrap (u * 4294967296) + v / 4294967296) - IntKind.u64.wrap (u / 4096000000 * 17592186044416000000)) = u % 4096000000 * 4294967296 + v / 4294967296 := by
  simp only [IntKind.wrap_u64]; omega
theorem quo_eq (h l : Int) (h0 : 0 ≤ h) (h1 : h < 1000000) (h2 : 0 ≤ l) (h3 : l ≤ 18446744073709551615) (u v x : Int) (hu : u = h * 17592186044416 + l / 1048576) (hv : v = (l % 1048576) * 17592186044416)
    (hx : x = u % 4096000000 * 4294967296 + v / 4294967296) : u / 4096000000 * 4294967296 + x / 4096000000 = dQ h l := by
  unfold dQ; omega
/-- The quotient, whatever the rest. -/
def Quo (q : Int) (e : Ending) : Prop := ∃ r : Int, e = .returned (.tuple #[.int .u64 q, .int .u64 r])
end Go.Proofs.YthaedmldlenhgaaGreatDoor.DecPure
