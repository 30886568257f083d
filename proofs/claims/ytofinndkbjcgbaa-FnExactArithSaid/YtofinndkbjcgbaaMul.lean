/-
  What DecMul of the program and of its model returns, and the library's two functions on numbers of 128 bits under it.
-/
import Derived.Test.YtofinndkbjcgbaaDec
import Derived.Test.YtofinndkbjcgbaaMulPure
import Derived.Test.YtofinndkbjcgbaaShelf
import Derived.RegionTactic
import Derived.Deep.QuietTactic
import Derived.BigQuiet
import Derived.Outline
namespace Go.Proofs.Ytofinndkbjcgbaa.Dec
open Go.ChangeShapes Go.WideShapes Go.ChangeAt Go.RowKit
open Go.Proofs.Ytofinndkbjcgbaa.DecPure
set_option linter.unusedVariables false

theorem mul64_nat (x y : Nat) (hx : x < 18446744073709551616) (hy : y < 18446744073709551616) (w : World) :
    Calls Try.prog 49 #[.int .u64 x, .int .u64 y] w fun e w' => e = .returned (.tuple #[.int .u64 (hiV x y), .int .u64 (loV x y)]) ∧ w = w' :=
  (Try.bits_Mul64 x y hx hy w).mono fun e w' ⟨he, hw⟩ => ⟨he.trans (tupU (castHi x y) (castLo x y)), hw.symm⟩

theorem mul64 (x y : Int) (hx : 0 ≤ x) (hy : 0 ≤ y) (h1 : x ≤ 9000000000000) (h2 : y ≤ 9000000000000) (w : World) :
    Calls Try.prog 49 #[.int .u64 x, .int .u64 y] w fun e w' => e = .returned (.tuple #[.int .u64 (hiV x y), .int .u64 (loV x y)]) ∧ w = w' := by
  obtain ⟨a, rfl⟩ := Int.eq_ofNat_of_zero_le hx
  obtain ⟨b, rfl⟩ := Int.eq_ofNat_of_zero_le hy
  exact mul64_nat a b (by omega) (by omega) w

theorem dec_size (n : Int) (h : dOk n = true) (w : World) : Calls Try.prog 50 #[.int .i64 n] w fun e w' => e = .returned (.int .u64 (absV n)) ∧ w = w' := by
  have hb := dOk_yes h
  clear h
  by_cases h0 : n < 0
  · have e := absV_neg h0
    have E := Lib.hid e; clear e
    go_enter Try.func50, Try.ntmps50
    go_wp2
    go_ret
    exact ⟨retI E.out.symm, rfl⟩
  · have e := absV_pos (show 0 ≤ n by omega)
    have E := Lib.hid e; clear e
    go_enter Try.func50, Try.ntmps50
    go_wp2
    go_ret
    exact ⟨retI E.out.symm, rfl⟩

theorem spec_abs (n : Int) (h : dOk n = true) (w : World) : Calls Try.prog 24 #[.int .i64 n] w fun e w' => e = .returned (.int .i64 (absV n)) ∧ w = w' := by
  have hb := dOk_yes h
  clear h
  by_cases h0 : n < 0
  · have e := absV_neg h0
    have E := Lib.hid e; clear e
    go_enter Try.func24, Try.ntmps24
    go_wp2
    go_ret
    exact ⟨retI E.out.symm, rfl⟩
  · have e := absV_pos (show 0 ≤ n by omega)
    have E := Lib.hid e; clear e
    go_enter Try.func24, Try.ntmps24
    go_wp2
    go_ret
    exact ⟨retI E.out.symm, rfl⟩




theorem spec_mul_big (a b : Int) (w : World) (h1 : dOk a = true) (h2 : dOk b = true) (k1 : 0 < absV a / 1000000) (k2 : 9000000000000 / (absV a / 1000000) < absV b) :
    Calls Try.prog 13 #[.int .i64 a, .int .i64 b] w fun e w' => e = .returned (.tuple #[.int .i64 0, .bool false]) ∧ w = w' := by
  have ba := absV_bd h1
  have bb := absV_bd h2
  go_enter Try.func13, Try.ntmps13
  go_wp2_with (first | (go_at_call 20; refine (spec_ok _ _).mono ?_; rintro e w' ⟨rfl, rfl⟩) | (go_at_call 24; refine (spec_abs _ (by assumption) _).mono ?_; rintro e w' ⟨rfl, rfl⟩))
  go_ret2
  exact ⟨rfl, rfl⟩

/-- What the model's function does with the number that it has reckoned. -/
theorem spec_mul_small (a b : Int) (w : World) (h1 : dOk a = true) (h2 : dOk b = true)
    (k1 : (0 < absV a / 1000000 ∧ absV b ≤ 9000000000000 / (absV a / 1000000)) ∨ absV a / 1000000 ≤ 0)
    (k3 : 0 ≤ absV a / 1000000 * absV b ∧ absV a / 1000000 * absV b ≤ 9000000000000) (k4 : 0 ≤ absV a % 1000000 * absV b ∧ absV a % 1000000 * absV b ≤ 8999991000000000000) :
    Calls Try.prog 13 #[.int .i64 a, .int .i64 b] w fun e w' => e = .returned (.tuple #[.int .i64 (mkV (mulQ a b)), .bool (dOk (mulQ a b))]) ∧ w = w' := by
  have ba := absV_bd h1
  have bb := absV_bd h2
  have hq : sizQ a b = absV a / 1000000 * absV b + absV a % 1000000 * absV b / 1000000 := parts_eq _ _ ba.1 bb.1
  have HQ := Lib.hid hq; clear hq
  cases ta : decide (a < 0) <;> cases tb : decide (b < 0)
  · have hm := mulQ_same (a := a) (b := b) (.inr ⟨by simpa using ta, by simpa using tb⟩)
    rw [HQ.out] at hm
    have HM := Lib.hid hm; clear hm HQ
    rcases k1 with ⟨ka, kb⟩ | ka
    all_goals
      go_enter Try.func13, Try.ntmps13
      go_wp2_with (first | (go_at_call 20; refine (spec_ok _ _).mono ?_; rintro e w' ⟨rfl, rfl⟩) | (go_at_call 24; refine (spec_abs _ (by assumption) _).mono ?_; rintro e w' ⟨rfl, rfl⟩) | (go_at_call 23; refine (spec_made _ _).mono ?_; rintro e w' ⟨rfl, rfl⟩))
      go_ret2
      exact ⟨by rw [HM.out]; rfl, rfl⟩
  · have hm := mulQ_diff (a := a) (b := b) (.inr ⟨by simpa using ta, by simpa using tb⟩)
    rw [HQ.out] at hm
    have HM := Lib.hid hm; clear hm HQ
    rcases k1 with ⟨ka, kb⟩ | ka
    all_goals
      go_enter Try.func13, Try.ntmps13
      go_wp2_with (first | (go_at_call 20; refine (spec_ok _ _).mono ?_; rintro e w' ⟨rfl, rfl⟩) | (go_at_call 24; refine (spec_abs _ (by assumption) _).mono ?_; rintro e w' ⟨rfl, rfl⟩) | (go_at_call 23; refine (spec_made _ _).mono ?_; rintro e w' ⟨rfl, rfl⟩))
      go_ret2
      exact ⟨by rw [HM.out]; rfl, rfl⟩
  · have hm := mulQ_diff (a := a) (b := b) (.inl ⟨by simpa using ta, by simpa using tb⟩)
    rw [HQ.out] at hm
    have HM := Lib.hid hm; clear hm HQ
    rcases k1 with ⟨ka, kb⟩ | ka
    all_goals
      go_enter Try.func13, Try.ntmps13
      go_wp2_with (first | (go_at_call 20; refine (spec_ok _ _).mono ?_; rintro e w' ⟨rfl, rfl⟩) | (go_at_call 24; refine (spec_abs _ (by assumption) _).mono ?_; rintro e w' ⟨rfl, rfl⟩) | (go_at_call 23; refine (spec_made _ _).mono ?_; rintro e w' ⟨rfl, rfl⟩))
      go_ret2
      exact ⟨by rw [HM.out]; rfl, rfl⟩
  · have hm := mulQ_same (a := a) (b := b) (.inl ⟨by simpa using ta, by simpa using tb⟩)
    rw [HQ.out] at hm
    have HM := Lib.hid hm; clear hm HQ
    rcases k1 with ⟨ka, kb⟩ | ka
    all_goals
      go_enter Try.func13, Try.ntmps13
      go_wp2_with (first | (go_at_call 20; refine (spec_ok _ _).mono ?_; rintro e w' ⟨rfl, rfl⟩) | (go_at_call 24; refine (spec_abs _ (by assumption) _).mono ?_; rintro e w' ⟨rfl, rfl⟩) | (go_at_call 23; refine (spec_made _ _).mono ?_; rintro e w' ⟨rfl, rfl⟩))
      go_ret2
      exact ⟨by rw [HM.out]; rfl, rfl⟩

theorem spec_mul (a b : Int) (w : World) : Calls Try.prog 13 #[.int .i64 a, .int .i64 b] w fun e w' => e = .returned (.tuple #[.int .i64 (mulV a b), .bool (mulB a b)]) ∧ w = w' := by
  by_cases h1 : dOk a = true
  · by_cases h2 : dOk b = true
    · have ba := absV_bd h1
      have bb := absV_bd h2
      have hv : mulV a b = mkV (mulQ a b) := by simp [mulV, h1, h2]
      have hB : mulB a b = dOk (mulQ a b) := by simp [mulB, h1, h2]
      rw [hv, hB]
      by_cases k1 : 0 < absV a / 1000000
      · by_cases k2 : 9000000000000 / (absV a / 1000000) < absV b
        · have hb : 9000000000000 < sizQ a b := whole_big _ _ ba.1 bb.1 k1 k2
          have hn : dOk (mulQ a b) = false := by
            have cs : ((a < 0 ∧ b < 0) ∨ (0 ≤ a ∧ 0 ≤ b)) ∨ ((a < 0 ∧ 0 ≤ b) ∨ (0 ≤ a ∧ b < 0)) := by omega
            rcases cs with hs | hs
            · rw [mulQ_same hs]; exact dOk_not (by omega)
            · rw [mulQ_diff hs]; exact dOk_not (by omega)
          rw [mkV_no hn, hn]
          exact spec_mul_big a b w h1 h2 k1 k2
        · exact spec_mul_small a b w h1 h2 (.inl ⟨k1, by omega⟩) (whole_small _ _ ba.1 bb.1 k1 (by omega)) (rest_bd _ _ ba.1 bb.1 bb.2)
      · have hz : absV a / 1000000 = 0 := by omega
        exact spec_mul_small a b w h1 h2 (.inr (by omega)) (by rw [hz]; omega) (rest_bd _ _ ba.1 bb.1 bb.2)
    · have h3 := no_eq h2
      clear h2
      go_enter Try.func13, Try.ntmps13
      go_wp2_with (go_at_call 20; refine (spec_ok _ _).mono ?_; rintro e w' ⟨rfl, rfl⟩)
      go_ret2
      exact ⟨tup2 (by simp [mulV, h3]) (by simp [mulB, h3]), rfl⟩
  · have h3 := no_eq h1
    clear h1
    go_enter Try.func13, Try.ntmps13
    go_wp2_with (go_at_call 20; refine (spec_ok _ _).mono ?_; rintro e w' ⟨rfl, rfl⟩)
    go_ret2
    exact ⟨tup2 (by simp [mulV, h3]) (by simp [mulB, h3]), rfl⟩

end Go.Proofs.Ytofinndkbjcgbaa.Dec
