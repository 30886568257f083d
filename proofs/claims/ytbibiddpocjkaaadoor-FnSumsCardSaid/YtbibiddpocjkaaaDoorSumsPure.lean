/-
  Plain facts on sums, products, remainders and quotients of decimals: what the laws ask of them.
-/
import Derived.Test.YtbibiddpocjkaaaDoorMulPure
namespace Go.Proofs.YtbibiddpocjkaaaDoor.SumsPure
open Go Go.RowKit
open Go.Proofs.YtbibiddpocjkaaaDoor.DecPure
set_option linter.unusedVariables false

theorem add_comm_ (a b : Int) : addV b a = addV a b := by unfold addV; rw [Int.add_comm b a, Bool.and_comm]
theorem add_commB (a b : Int) : addB b a = addB a b := by unfold addB; rw [Int.add_comm b a, Bool.and_comm (dOk b)]
theorem addV_no {a b : Int} (h : addB a b = false) : addV a b = 0 := by
  unfold addV; split
  · rename_i h1
    unfold addB at h; rw [h1] at h
    exact mkV_no (by simpa using h)
  · rfl
theorem addB_yes {a b : Int} (h : addB a b = true) : dOk a = true ∧ dOk b = true ∧ dOk (a + b) = true := by
  simp [addB] at h; exact ⟨h.1.1, h.1.2, h.2⟩
theorem addV_yes {a b : Int} (h : addB a b = true) : addV a b = a + b := by
  obtain ⟨h1, h2, h3⟩ := addB_yes h
  simp [addV, h1, h2, mkV_yes h3]
theorem sums_back {a b : Int} (h : addB a b = true) : subV (a + b) b = a ∧ subB (a + b) b = true ∧ negV a = -a ∧ addV a (-a) = 0 ∧ addB a (-a) = true ∧ cmpV (a + b) b = cmpV a 0 := by
  obtain ⟨h1, h2, h3⟩ := addB_yes h
  have b1 := dOk_yes h1
  have h4 : dOk (-a) = true := dOk_of (by omega)
  have h5 : dOk 0 = true := by decide
  have e1 : a + b - b = a := by omega
  have e2 : a + -a = 0 := by omega
  refine ⟨by simp [subV, h3, h2, e1, mkV_yes h1], by simp [subB, h3, h2, e1, h1], by simp [negV, h1], by simp [addV, h1, h4, e2, mkV], by simp [addB, h1, h4, e2, h5], ?_⟩
  simp only [cmpV, h3, h2, h1, h5, Bool.and_true, if_true]
  unfold cmp3
  by_cases c1 : a < 0
  · rw [if_pos c1, if_pos (by omega)]
  · by_cases c2 : 0 < a
    · rw [if_neg c1, if_pos c2, if_neg (by omega), if_pos (by omega)]
    · rw [if_neg c1, if_neg c2, if_neg (by omega), if_neg (by omega)]

theorem mulQ_comm (a b : Int) : mulQ b a = mulQ a b := by unfold mulQ; rw [Int.mul_comm]
theorem mul_comm_ (a b : Int) : mulV b a = mulV a b := by unfold mulV; rw [mulQ_comm, Bool.and_comm]
theorem mul_commB (a b : Int) : mulB b a = mulB a b := by unfold mulB; rw [mulQ_comm, Bool.and_comm (dOk b)]
theorem mulV_no {a b : Int} (h : mulB a b = false) : mulV a b = 0 := by
  unfold mulV; split
  · rename_i h1
    unfold mulB at h; rw [h1] at h
    exact mkV_no (by simpa using h)
  · rfl
theorem mulB_yes {a b : Int} (h : mulB a b = true) : dOk a = true ∧ dOk b = true ∧ dOk (mulQ a b) = true := by
  simp [mulB] at h; exact ⟨h.1.1, h.1.2, h.2⟩
theorem mulV_yes {a b : Int} (h : mulB a b = true) : mulV a b = mulQ a b := by
  obtain ⟨h1, h2, h3⟩ := mulB_yes h
  simp [mulV, h1, h2, mkV_yes h3]
theorem prods {a b : Int} (h : mulB a b = true) : negV a = -a ∧ mulV (-a) b = -mulQ a b ∧ mulB (-a) b = true ∧ negV (mulQ a b) = -mulQ a b ∧ mulV a 1000000 = a ∧ mulB a 1000000 = true := by
  obtain ⟨h1, h2, h3⟩ := mulB_yes h
  have b1 := dOk_yes h1
  have b3 := dOk_yes h3
  have h4 : dOk (-a) = true := dOk_of (by omega)
  have h5 : dOk (-mulQ a b) = true := dOk_of (by omega)
  have h6 : dOk 1000000 = true := by decide
  have e1 : mulQ (-a) b = -mulQ a b := by unfold mulQ; rw [Int.neg_mul, Int.neg_tdiv]
  have e2 : mulQ a 1000000 = a := by unfold mulQ; exact Int.mul_tdiv_cancel _ (by omega)
  exact ⟨by simp [negV, h1], by simp [mulV, h4, h2, e1, mkV_yes h5], by simp [mulB, h4, h2, e1, h5], by simp [negV, h3], by simp [mulV, h1, h6, e2, mkV_yes h1], by simp [mulB, h1, h6, e2]⟩

theorem modV_no {a b : Int} (h : modB a b = false) : modV a b = 0 := by
  unfold modV; split
  · rename_i h1
    unfold modB at h; rw [h1] at h; cases h
  · rfl
theorem modB_yes {a b : Int} (h : modB a b = true) : dOk a = true ∧ dOk b = true ∧ b ≠ 0 := by
  simp [modB] at h; exact ⟨h.1.1, h.1.2, h.2⟩
theorem modV_yes {a b : Int} (h : modB a b = true) : modV a b = a.tmod b := by
  unfold modV; unfold modB at h; rw [if_pos h]
theorem parts {a : Int} (h : dOk a = true) : intV a + fracV a = a ∧ (intV a).tmod 1000000 = 0 ∧ -1000000 < fracV a ∧ fracV a < 1000000 ∧ -9000000000000 ≤ intV a ∧ intV a ≤ 9000000000000 := by
  have ht := tmod_bd a
  have hi := intV_bd a
  have e1 : intV a = a - a.tmod 1000000 := by simp [intV, h]
  have e2 : fracV a = a.tmod 1000000 := by simp [fracV, h]
  refine ⟨by omega, ?_, by omega, by omega, hi.1, hi.2⟩
  rw [e1, ← tdiv_tmod]
  exact Int.mul_tmod_left _ _
/-- A remainder by a divisor above 0: smaller, of the dividend's sign, and what is taken off is a multiple. -/
theorem rest_pos {a b : Int} (h : 0 < b) : a.tmod b < b ∧ -b < a.tmod b ∧ (0 ≤ a → 0 ≤ a.tmod b) ∧ (a ≤ 0 → a.tmod b ≤ 0) ∧ (a - a.tmod b).tmod b = 0 := by
  have e : a - a.tmod b = b * a.tdiv b := by have := Int.mul_tdiv_add_tmod a b; omega
  have h1 := Int.tmod_lt_of_pos a h
  have h2 : -b < a.tmod b := by
    have := Int.tmod_lt_of_pos (-a) h
    rw [Int.neg_tmod] at this; omega
  refine ⟨h1, h2, fun h0 => Int.tmod_nonneg _ h0, fun h0 => ?_, by rw [e]; exact Int.mul_tmod_right _ _⟩
  have := Int.tmod_nonneg b (show 0 ≤ -a by omega)
  rw [Int.neg_tmod] at this; omega
theorem rest_neg {a b : Int} (h : b < 0) : a.tmod b = a.tmod (-b) := (Int.tmod_neg a b).symm

theorem divV_no {a b : Int} (h : divB a b = false) : divV a b = 0 := by
  unfold divV; split
  · rename_i h1
    unfold divB at h; rw [h1] at h
    exact mkV_no (by simpa using h)
  · rfl
theorem divB_yes {a b : Int} (h : divB a b = true) : dOk a = true ∧ dOk b = true ∧ b ≠ 0 ∧ dOk ((a * 1000000).tdiv b) = true := by
  simp [divB] at h; exact ⟨h.1.1.1, h.1.1.2, h.1.2, h.2⟩
theorem divV_yes {a b : Int} (h : divB a b = true) : divV a b = (a * 1000000).tdiv b := by
  obtain ⟨h1, h2, h3, h4⟩ := divB_yes h
  simp [divV, h1, h2, h3, mkV_yes h4]
theorem quots {a b : Int} (h : divB a b = true) : divV a 1000000 = a ∧ divB a 1000000 = true ∧ divV b b = 1000000 ∧ divB b b = true := by
  obtain ⟨h1, h2, h3, h4⟩ := divB_yes h
  have e1 : (a * 1000000).tdiv 1000000 = a := Int.mul_tdiv_cancel _ (by omega)
  have e2 : (b * 1000000).tdiv b = 1000000 := by rw [Int.mul_comm]; exact Int.mul_tdiv_cancel _ h3
  have h5 : dOk 1000000 = true := by decide
  exact ⟨by simp [divV, h1, h5, e1, mkV_yes h1], by simp [divB, h1, h5, e1], by simp [divV, h2, h3, e2, mkV_yes h5], by simp [divB, h2, h3, e2, h5]⟩
theorem quot_sign {a b : Int} (h3 : b ≠ 0) (hq : (a * 1000000).tdiv b ≠ 0) : decide ((a * 1000000).tdiv b < 0) = (decide (a < 0) != decide (b < 0)) := by
  have nn : ∀ x y : Int, 0 ≤ x → 0 ≤ y → 0 ≤ x.tdiv y := fun x y hx hy => Int.tdiv_nonneg hx hy
  by_cases ha : a < 0 <;> by_cases hb : b < 0
  · have := nn (-(a * 1000000)) (-b) (by omega) (by omega)
    rw [Int.neg_tdiv, Int.tdiv_neg, Int.neg_neg] at this
    simp [ha, hb]; omega
  · have := nn (-(a * 1000000)) b (by omega) (by omega)
    rw [Int.neg_tdiv] at this
    simp [ha, hb]; omega
  · have := nn (a * 1000000) (-b) (by omega) (by omega)
    rw [Int.tdiv_neg] at this
    simp [ha, hb]; omega
  · have := nn (a * 1000000) b (by omega) (by omega)
    simp [ha, hb]; omega
end Go.Proofs.YtbibiddpocjkaaaDoor.SumsPure
