/-
  Plain facts on sums, products, remainders and quotients of decimals: what the laws ask of them.
-/
import Derived.Test.YtbibiddpocjkaaaDoorMulPure
namespace Go.Proofs.YtbibiddpocjkaaaDoor.SumsPure
open Go Go.RowKit
open Go.Proofs.YtbibiddpocjkaaaDoor.DecPure
set_option linter.unusedVariables false

theorem add_comm_ (a b : Int) : addV b a = addV a b := by unfold addV; rw [Int.add_comm b a, Bool.and_comm]
theorem add_commB (a b : Int) : addB b a = addB a b := by unfold addB; rw [Int.add_comm b a, Bool.and_comm (dOk b)]
theorem addV_no {a b : Int} (h : addB a b = false) : addV a b = 0 := by
  unfold addV; split
  · rename_i h1
    unfold addB at h; rw [h1] at h
    exact mkV_no (by simpa using h)
  · rfl
theorem addB_yes {a b : Int} (h : addB a b = true) : dOk a = true ∧ dOk b = true ∧ dOk (a + b) = true := by
  simp [addB] at h; exact ⟨h.1.1, h.1.2, h.2⟩
theorem addV_yes {a b : Int} (h : addB a b = true) : addV a b = a + b := by
  obtain ⟨h1, h2, h3⟩ := addB_yes h
  simp [addV, h1, h2, mkV_yes h3]
theorem sums_back {a b : Int} (h : addB a b = true) : subV (a + b) b = a ∧ subB (a + b) b = true ∧ negV a = -a ∧ addV a (-a) = 0 ∧ addB a (-a) = true ∧ cmpV (a + b) b = cmpV a 0 := by
  obtain ⟨h1, h2, h3⟩ := addB_yes h
  have b1 := dOk_yes h1
  have h4 : dOk (-a) = true := dOk_of (by omega)
  have h5 : dOk 0 = true := by decide
  have e1 : a + b - b = a := by omega
  have e2 : a + -a = 0 := by omega
  refine ⟨by simp [subV, h3, h2, e1, mkV_yes h1], by simp [subB, h3, h2, e1, h1], by simp [negV, h1], by simp [addV, h1, h4, e2, mkV], by simp [addB, h1, h4, e2, h5], ?_⟩
  simp only [cmpV, h3, h2, h1, h5, Bool.and_true, if_true]
  unfold cmp3
  by_cases c1 : a < 0
  · rw [if_pos c1, if_pos (by omega)]
  · by_cases c2 : 0 < a
    · rw [if_neg c1, if_pos c2, if_neg (by omega), if_pos (by omega)]
    · rw [if_neg c1, if_neg c2, if_neg (by omega), if_neg (by omega)]
end Go.Proofs.YtbibiddpocjkaaaDoor.SumsPure
