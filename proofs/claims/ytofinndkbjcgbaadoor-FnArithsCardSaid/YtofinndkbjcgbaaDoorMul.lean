/-
  What DecMul of the program and of its model returns, and the library's two functions on numbers of 128 bits under it.
-/
import Derived.Test.YtofinndkbjcgbaaDoorDec
import Derived.Test.YtofinndkbjcgbaaDoorMulPure
import Derived.Test.YtofinndkbjcgbaaDoorShelf
import Derived.RegionTactic
import Derived.Deep.QuietTactic
import Derived.BigQuiet
import Derived.Outline
namespace Go.Proofs.YtofinndkbjcgbaaDoor.Dec
open Go.ChangeShapes Go.WideShapes Go.ChangeAt Go.RowKit
open Go.Proofs.YtofinndkbjcgbaaDoor.DecPure
set_option linter.unusedVariables false

theorem mul64_nat (x y : Nat) (hx : x < 18446744073709551616) (hy : y < 18446744073709551616) (w : World) :
    Calls Tryd.prog 124 #[.int .u64 x, .int .u64 y] w fun e w' => e = .returned (.tuple #[.int .u64 (hiV x y), .int .u64 (loV x y)]) ∧ w = w' :=
  (Tryd.bits_Mul64 x y hx hy w).mono fun e w' ⟨he, hw⟩ => ⟨he.trans (tupU (castHi x y) (castLo x y)), hw.symm⟩

theorem mul64 (x y : Int) (hx : 0 ≤ x) (hy : 0 ≤ y) (h1 : x ≤ 9000000000000) (h2 : y ≤ 9000000000000) (w : World) :
    Calls Tryd.prog 124 #[.int .u64 x, .int .u64 y] w fun e w' => e = .returned (.tuple #[.int .u64 (hiV x y), .int .u64 (loV x y)]) ∧ w = w' := by
  obtain ⟨a, rfl⟩ := Int.eq_ofNat_of_zero_le hx
  obtain ⟨b, rfl⟩ := Int.eq_ofNat_of_zero_le hy
  exact mul64_nat a b (by omega) (by omega) w

theorem dec_size (n : Int) (h : dOk n = true) (w : World) : Calls Tryd.prog 128 #[.int .i64 n] w fun e w' => e = .returned (.int .u64 (absV n)) ∧ w = w' := by
  have hb := dOk_yes h
  clear h
  by_cases h0 : n < 0
  · have e := absV_neg h0
    have E := Lib.hid e; clear e
    go_enter Tryd.func128, Tryd.ntmps128
    go_wp2
    go_ret
    exact ⟨retI E.out.symm, rfl⟩
  · have e := absV_pos (show 0 ≤ n by omega)
    have E := Lib.hid e; clear e
    go_enter Tryd.func128, Tryd.ntmps128
    go_wp2
    go_ret
    exact ⟨retI E.out.symm, rfl⟩

theorem spec_abs (n : Int) (h : dOk n = true) (w : World) : Calls Tryd.prog 75 #[.int .i64 n] w fun e w' => e = .returned (.int .i64 (absV n)) ∧ w = w' := by
  have hb := dOk_yes h
  clear h
  by_cases h0 : n < 0
  · have e := absV_neg h0
    have E := Lib.hid e; clear e
    go_enter Tryd.func75, Tryd.ntmps75
    go_wp2
    go_ret
    exact ⟨retI E.out.symm, rfl⟩
  · have e := absV_pos (show 0 ≤ n by omega)
    have E := Lib.hid e; clear e
    go_enter Tryd.func75, Tryd.ntmps75
    go_wp2
    go_ret
    exact ⟨retI E.out.symm, rfl⟩

theorem cmp_int (a b : Int) (w : World) : Calls Tryd.prog 52 #[.int .i64 a, .int .i64 b] w fun e w' => e = .returned (.int .i64 (cmp3 a b)) ∧ w = w' := by
  by_cases h1 : a < b
  · have e : cmp3 a b = -1 := by rw [cmp3, if_pos h1]
    have E := Lib.hid e; clear e
    go_enter Tryd.func52, Tryd.ntmps52
    go_wp2
    go_ret
    exact ⟨retI E.out.symm, rfl⟩
  · by_cases h2 : b < a
    · have e : cmp3 a b = 1 := by rw [cmp3, if_neg h1, if_pos h2]
      have E := Lib.hid e; clear e
      have h3 : decide (a < b) = false := by simpa using h1
      go_enter Tryd.func52, Tryd.ntmps52
      go_wp2
      go_ret
      exact ⟨retI E.out.symm, rfl⟩
    · have e : cmp3 a b = 0 := by rw [cmp3, if_neg h1, if_neg h2]
      have E := Lib.hid e; clear e
      have h3 : decide (a < b) = false := by simpa using h1
      have h4 : decide (b < a) = false := by simpa using h2
      go_enter Tryd.func52, Tryd.ntmps52
      go_wp2
      go_ret
      exact ⟨retI E.out.symm, rfl⟩



theorem spec_mul_big (a b : Int) (w : World) (h1 : dOk a = true) (h2 : dOk b = true) (k1 : 0 < absV a / 1000000) (k2 : 9000000000000 / (absV a / 1000000) < absV b) :
    Calls Tryd.prog 67 #[.int .i64 a, .int .i64 b] w fun e w' => e = .returned (.tuple #[.int .i64 0, .bool false]) ∧ w = w' := by
  have ba := absV_bd h1
  have bb := absV_bd h2
  go_enter Tryd.func67, Tryd.ntmps67
  go_wp2_with (first | (go_at_call 55; refine (spec_ok _ _).mono ?_; rintro e w' ⟨rfl, rfl⟩) | (go_at_call 75; refine (spec_abs _ (by assumption) _).mono ?_; rintro e w' ⟨rfl, rfl⟩))
  go_ret2
  exact ⟨rfl, rfl⟩

/-- What the model's function does with the number that it has reckoned. -/
theorem spec_mul_small (a b : Int) (w : World) (h1 : dOk a = true) (h2 : dOk b = true)
    (k1 : (0 < absV a / 1000000 ∧ absV b ≤ 9000000000000 / (absV a / 1000000)) ∨ absV a / 1000000 ≤ 0)
    (k3 : 0 ≤ absV a / 1000000 * absV b ∧ absV a / 1000000 * absV b ≤ 9000000000000) (k4 : 0 ≤ absV a % 1000000 * absV b ∧ absV a % 1000000 * absV b ≤ 8999991000000000000) :
    Calls Tryd.prog 67 #[.int .i64 a, .int .i64 b] w fun e w' => e = .returned (.tuple #[.int .i64 (mkV (mulQ a b)), .bool (dOk (mulQ a b))]) ∧ w = w' := by
  have ba := absV_bd h1
  have bb := absV_bd h2
  have hq : sizQ a b = absV a / 1000000 * absV b + absV a % 1000000 * absV b / 1000000 := parts_eq _ _ ba.1 bb.1
  have HQ := Lib.hid hq; clear hq
  cases ta : decide (a < 0) <;> cases tb : decide (b < 0)
  · have hm := mulQ_same (a := a) (b := b) (.inr ⟨by simpa using ta, by simpa using tb⟩)
    rw [HQ.out] at hm
    have HM := Lib.hid hm; clear hm HQ
    rcases k1 with ⟨ka, kb⟩ | ka
    all_goals
      go_enter Tryd.func67, Tryd.ntmps67
      go_wp2_with (first | (go_at_call 55; refine (spec_ok _ _).mono ?_; rintro e w' ⟨rfl, rfl⟩) | (go_at_call 75; refine (spec_abs _ (by assumption) _).mono ?_; rintro e w' ⟨rfl, rfl⟩) | (go_at_call 96; refine (spec_made _ _).mono ?_; rintro e w' ⟨rfl, rfl⟩))
      go_ret2
      exact ⟨by rw [HM.out]; rfl, rfl⟩
  · have hm := mulQ_diff (a := a) (b := b) (.inr ⟨by simpa using ta, by simpa using tb⟩)
    rw [HQ.out] at hm
    have HM := Lib.hid hm; clear hm HQ
    rcases k1 with ⟨ka, kb⟩ | ka
    all_goals
      go_enter Tryd.func67, Tryd.ntmps67
      go_wp2_with (first | (go_at_call 55; refine (spec_ok _ _).mono ?_; rintro e w' ⟨rfl, rfl⟩) | (go_at_call 75; refine (spec_abs _ (by assumption) _).mono ?_; rintro e w' ⟨rfl, rfl⟩) | (go_at_call 96; refine (spec_made _ _).mono ?_; rintro e w' ⟨rfl, rfl⟩))
      go_ret2
      exact ⟨by rw [HM.out]; rfl, rfl⟩
  · have hm := mulQ_diff (a := a) (b := b) (.inl ⟨by simpa using ta, by simpa using tb⟩)
    rw [HQ.out] at hm
    have HM := Lib.hid hm; clear hm HQ
    rcases k1 with ⟨ka, kb⟩ | ka
    all_goals
      go_enter Tryd.func67, Tryd.ntmps67
      go_wp2_with (first | (go_at_call 55; refine (spec_ok _ _).mono ?_; rintro e w' ⟨rfl, rfl⟩) | (go_at_call 75; refine (spec_abs _ (by assumption) _).mono ?_; rintro e w' ⟨rfl, rfl⟩) | (go_at_call 96; refine (spec_made _ _).mono ?_; rintro e w' ⟨rfl, rfl⟩))
      go_ret2
      exact ⟨by rw [HM.out]; rfl, rfl⟩
  · have hm := mulQ_same (a := a) (b := b) (.inl ⟨by simpa using ta, by simpa using tb⟩)
    rw [HQ.out] at hm
    have HM := Lib.hid hm; clear hm HQ
    rcases k1 with ⟨ka, kb⟩ | ka
    all_goals
      go_enter Tryd.func67, Tryd.ntmps67
      go_wp2_with (first | (go_at_call 55; refine (spec_ok _ _).mono ?_; rintro e w' ⟨rfl, rfl⟩) | (go_at_call 75; refine (spec_abs _ (by assumption) _).mono ?_; rintro e w' ⟨rfl, rfl⟩) | (go_at_call 96; refine (spec_made _ _).mono ?_; rintro e w' ⟨rfl, rfl⟩))
      go_ret2
      exact ⟨by rw [HM.out]; rfl, rfl⟩

theorem spec_mul (a b : Int) (w : World) : Calls Tryd.prog 67 #[.int .i64 a, .int .i64 b] w fun e w' => e = .returned (.tuple #[.int .i64 (mulV a b), .bool (mulB a b)]) ∧ w = w' := by
  by_cases h1 : dOk a = true
  · by_cases h2 : dOk b = true
    · have ba := absV_bd h1
      have bb := absV_bd h2
      have hv : mulV a b = mkV (mulQ a b) := by simp [mulV, h1, h2]
      have hB : mulB a b = dOk (mulQ a b) := by simp [mulB, h1, h2]
      rw [hv, hB]
      by_cases k1 : 0 < absV a / 1000000
      · by_cases k2 : 9000000000000 / (absV a / 1000000) < absV b
        · have hb : 9000000000000 < sizQ a b := whole_big _ _ ba.1 bb.1 k1 k2
          have hn : dOk (mulQ a b) = false := by
            have cs : ((a < 0 ∧ b < 0) ∨ (0 ≤ a ∧ 0 ≤ b)) ∨ ((a < 0 ∧ 0 ≤ b) ∨ (0 ≤ a ∧ b < 0)) := by omega
            rcases cs with hs | hs
            · rw [mulQ_same hs]; exact dOk_not (by omega)
            · rw [mulQ_diff hs]; exact dOk_not (by omega)
          rw [mkV_no hn, hn]
          exact spec_mul_big a b w h1 h2 k1 k2
        · exact spec_mul_small a b w h1 h2 (.inl ⟨k1, by omega⟩) (whole_small _ _ ba.1 bb.1 k1 (by omega)) (rest_bd _ _ ba.1 bb.1 bb.2)
      · have hz : absV a / 1000000 = 0 := by omega
        exact spec_mul_small a b w h1 h2 (.inr (by omega)) (by rw [hz]; omega) (rest_bd _ _ ba.1 bb.1 bb.2)
    · have h3 := no_eq h2
      clear h2
      go_enter Tryd.func67, Tryd.ntmps67
      go_wp2_with (go_at_call 55; refine (spec_ok _ _).mono ?_; rintro e w' ⟨rfl, rfl⟩)
      go_ret2
      exact ⟨tup2 (by simp [mulV, h3]) (by simp [mulB, h3]), rfl⟩
  · have h3 := no_eq h1
    clear h1
    go_enter Tryd.func67, Tryd.ntmps67
    go_wp2_with (go_at_call 55; refine (spec_ok _ _).mono ?_; rintro e w' ⟨rfl, rfl⟩)
    go_ret2
    exact ⟨tup2 (by simp [mulV, h3]) (by simp [mulB, h3]), rfl⟩

end Go.Proofs.YtofinndkbjcgbaaDoor.Dec
