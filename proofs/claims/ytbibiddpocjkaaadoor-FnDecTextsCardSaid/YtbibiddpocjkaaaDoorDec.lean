/-
  What each function of the first chapter, of the program and of its model, returns: a contract a function.
-/
import Derived.Test.YtbibiddpocjkaaaDoorChecked
import Derived.Test.YtbibiddpocjkaaaDoorDecPure
import Derived.WalkKit
import Derived.ProofKit
import Derived.OpenShut
import Derived.Handy
import Derived.Lib.Hide
import Derived.Outline
namespace Go.Proofs.YtbibiddpocjkaaaDoor.Dec
open Go.ChangeShapes Go.WideShapes Go.ChangeAt Go.RowKit
open Go.Proofs.YtbibiddpocjkaaaDoor.DecPure
set_option linter.unusedVariables false

theorem spec_ok (n : Int) (w : World) : Calls Tryd.prog 44 #[.int .i64 n] w fun e w' => e = .returned (.bool (dOk n)) ∧ w = w' := by
  by_cases h : dOk n = true
  · have hb := dOk_yes h
    have H := Lib.hid h; clear h
    go_enter Tryd.func44, Tryd.ntmps44
    go_wp2
    go_ret
    exact ⟨retB H.out.symm, rfl⟩
  · have hf := no_eq h
    have H := Lib.hid hf; clear hf
    rcases dOk_no h with hb | hb
    · clear h
      go_enter Tryd.func44, Tryd.ntmps44
      go_wp2
      go_ret
      exact ⟨retB H.out.symm, rfl⟩
    · clear h
      have d1 : decide (n ≤ 9000000000000) = false := by simp; omega
      have d2 : -9000000000000 ≤ n := by omega
      go_enter Tryd.func44, Tryd.ntmps44
      go_wp2
      go_ret
      exact ⟨retB H.out.symm, rfl⟩

theorem dec_ok (n : Int) (w : World) : Calls Tryd.prog 36 #[.int .i64 n] w fun e w' => e = .returned (.bool (dOk n)) ∧ w = w' := by
  by_cases h : dOk n = true
  · have hb := dOk_yes h
    have H := Lib.hid h; clear h
    go_enter Tryd.func36, Tryd.ntmps36
    go_wp2
    go_ret
    exact ⟨retB H.out.symm, rfl⟩
  · have hf := no_eq h
    have H := Lib.hid hf; clear hf
    rcases dOk_no h with hb | hb
    · clear h
      go_enter Tryd.func36, Tryd.ntmps36
      go_wp2
      go_ret
      exact ⟨retB H.out.symm, rfl⟩
    · clear h
      have d1 : decide (n ≤ 9000000000000) = false := by simp; omega
      have d2 : -9000000000000 ≤ n := by omega
      go_enter Tryd.func36, Tryd.ntmps36
      go_wp2
      go_ret
      exact ⟨retB H.out.symm, rfl⟩

theorem impl_ok (n : Int) (w : World) : Calls Tryd.prog 11 #[.int .i64 n] w fun e w' => e = .returned (.bool (dOk n)) ∧ w = w' := by
  go_enter Tryd.func11, Tryd.ntmps11
  go_wp2_with (go_at_call 36; refine (dec_ok _ _).mono ?_; rintro e w' ⟨rfl, rfl⟩)
  go_ret
  exact ⟨rfl, rfl⟩

theorem both_ok (a b : Int) (w : World) : Calls Tryd.prog 42 #[.int .i64 a, .int .i64 b] w fun e w' => e = .returned (.bool (dOk a && dOk b)) ∧ w = w' := by
  by_cases h : dOk a = true
  · go_enter Tryd.func42, Tryd.ntmps42
    go_wp2_with (go_at_call 36; refine (dec_ok _ _).mono ?_; rintro e w' ⟨rfl, rfl⟩)
    go_ret
    exact ⟨retB (by simp [h]), rfl⟩
  · have hf := no_eq h
    clear h
    go_enter Tryd.func42, Tryd.ntmps42
    go_wp2_with (go_at_call 36; refine (dec_ok _ _).mono ?_; rintro e w' ⟨rfl, rfl⟩)
    go_ret
    exact ⟨retB (by simp [hf]), rfl⟩

theorem spec_made (n : Int) (w : World) : Calls Tryd.prog 45 #[.int .i64 n] w fun e w' => e = .returned (.tuple #[.int .i64 (mkV n), .bool (dOk n)]) ∧ w = w' := by
  by_cases h : dOk n = true
  · go_enter Tryd.func45, Tryd.ntmps45
    go_wp2_with (go_at_call 44; refine (spec_ok _ _).mono ?_; rintro e w' ⟨rfl, rfl⟩)
    go_ret2
    exact ⟨tup2 (mkV_yes h).symm h.symm, rfl⟩
  · have hf := no_eq h
    clear h
    go_enter Tryd.func45, Tryd.ntmps45
    go_wp2_with (go_at_call 44; refine (spec_ok _ _).mono ?_; rintro e w' ⟨rfl, rfl⟩)
    go_ret2
    exact ⟨tup2 (mkV_no hf).symm hf.symm, rfl⟩

theorem dec_checked (n : Int) (w : World) : Calls Tryd.prog 43 #[.int .i64 n] w fun e w' => e = .returned (.tuple #[.int .i64 (mkV n), .bool (dOk n)]) ∧ w = w' := by
  by_cases h : dOk n = true
  · go_enter Tryd.func43, Tryd.ntmps43
    go_wp2_with (go_at_call 36; refine (dec_ok _ _).mono ?_; rintro e w' ⟨rfl, rfl⟩)
    go_ret2
    exact ⟨tup2 (mkV_yes h).symm h.symm, rfl⟩
  · have hf := no_eq h
    clear h
    go_enter Tryd.func43, Tryd.ntmps43
    go_wp2_with (go_at_call 36; refine (dec_ok _ _).mono ?_; rintro e w' ⟨rfl, rfl⟩)
    go_ret2
    exact ⟨tup2 (mkV_no hf).symm hf.symm, rfl⟩

theorem spec_add (a b : Int) (w : World) : Calls Tryd.prog 17 #[.int .i64 a, .int .i64 b] w fun e w' => e = .returned (.tuple #[.int .i64 (addV a b), .bool (addB a b)]) ∧ w = w' := by
  by_cases h1 : dOk a = true
  · by_cases h2 : dOk b = true
    · have b1 := dOk_yes h1
      have b2 := dOk_yes h2
      go_enter Tryd.func17, Tryd.ntmps17
      go_wp2_with (first | (go_at_call 44; refine (spec_ok _ _).mono ?_; rintro e w' ⟨rfl, rfl⟩) | (go_at_call 45; refine (spec_made _ _).mono ?_; rintro e w' ⟨rfl, rfl⟩))
      go_ret2
      exact ⟨tup2 (by simp [addV, h1, h2]) (by simp [addB, h1, h2]), rfl⟩
    · have h3 := no_eq h2
      clear h2
      go_enter Tryd.func17, Tryd.ntmps17
      go_wp2_with (go_at_call 44; refine (spec_ok _ _).mono ?_; rintro e w' ⟨rfl, rfl⟩)
      go_ret2
      exact ⟨tup2 (by simp [addV, h3]) (by simp [addB, h3]), rfl⟩
  · have h3 := no_eq h1
    clear h1
    by_cases h2 : dOk b = true
    · go_enter Tryd.func17, Tryd.ntmps17
      go_wp2_with (go_at_call 44; refine (spec_ok _ _).mono ?_; rintro e w' ⟨rfl, rfl⟩)
      go_ret2
      exact ⟨tup2 (by simp [addV, h3]) (by simp [addB, h3]), rfl⟩
    · have h4 := no_eq h2
      clear h2
      go_enter Tryd.func17, Tryd.ntmps17
      go_wp2_with (go_at_call 44; refine (spec_ok _ _).mono ?_; rintro e w' ⟨rfl, rfl⟩)
      go_ret2
      exact ⟨tup2 (by simp [addV, h3]) (by simp [addB, h3]), rfl⟩

theorem impl_add (a b : Int) (w : World) : Calls Tryd.prog 16 #[.int .i64 a, .int .i64 b] w fun e w' => e = .returned (.tuple #[.int .i64 (addV a b), .bool (addB a b)]) ∧ w = w' := by
  by_cases h1 : dOk a = true
  · by_cases h2 : dOk b = true
    · have b1 := dOk_yes h1
      have b2 := dOk_yes h2
      go_enter Tryd.func16, Tryd.ntmps16
      go_wp2_with (first | (go_at_call 42; refine (both_ok _ _ _).mono ?_; rintro e w' ⟨rfl, rfl⟩) | (go_at_call 43; refine (dec_checked _ _).mono ?_; rintro e w' ⟨rfl, rfl⟩))
      go_ret2
      exact ⟨tup2 (by simp [addV, h1, h2]) (by simp [addB, h1, h2]), rfl⟩
    · have h3 := no_eq h2
      clear h2
      go_enter Tryd.func16, Tryd.ntmps16
      go_wp2_with (go_at_call 42; refine (both_ok _ _ _).mono ?_; rintro e w' ⟨rfl, rfl⟩)
      go_ret2
      exact ⟨tup2 (by simp [addV, h3]) (by simp [addB, h3]), rfl⟩
  · have h3 := no_eq h1
    clear h1
    by_cases h2 : dOk b = true
    · go_enter Tryd.func16, Tryd.ntmps16
      go_wp2_with (go_at_call 42; refine (both_ok _ _ _).mono ?_; rintro e w' ⟨rfl, rfl⟩)
      go_ret2
      exact ⟨tup2 (by simp [addV, h3]) (by simp [addB, h3]), rfl⟩
    · have h4 := no_eq h2
      clear h2
      go_enter Tryd.func16, Tryd.ntmps16
      go_wp2_with (go_at_call 42; refine (both_ok _ _ _).mono ?_; rintro e w' ⟨rfl, rfl⟩)
      go_ret2
      exact ⟨tup2 (by simp [addV, h3]) (by simp [addB, h3]), rfl⟩


theorem impl_sub (a b : Int) (w : World) : Calls Tryd.prog 18 #[.int .i64 a, .int .i64 b] w fun e w' => e = .returned (.tuple #[.int .i64 (subV a b), .bool (subB a b)]) ∧ w = w' := by
  by_cases h1 : dOk a = true
  · by_cases h2 : dOk b = true
    · have b1 := dOk_yes h1
      have b2 := dOk_yes h2
      go_enter Tryd.func18, Tryd.ntmps18
      go_wp2_with (first | (go_at_call 42; refine (both_ok _ _ _).mono ?_; rintro e w' ⟨rfl, rfl⟩) | (go_at_call 43; refine (dec_checked _ _).mono ?_; rintro e w' ⟨rfl, rfl⟩))
      go_ret2
      exact ⟨tup2 (by simp [subV, h1, h2]) (by simp [subB, h1, h2]), rfl⟩
    · have h3 := no_eq h2
      clear h2
      go_enter Tryd.func18, Tryd.ntmps18
      go_wp2_with (go_at_call 42; refine (both_ok _ _ _).mono ?_; rintro e w' ⟨rfl, rfl⟩)
      go_ret2
      exact ⟨tup2 (by simp [subV, h3]) (by simp [subB, h3]), rfl⟩
  · have h3 := no_eq h1
    clear h1
    by_cases h2 : dOk b = true
    · go_enter Tryd.func18, Tryd.ntmps18
      go_wp2_with (go_at_call 42; refine (both_ok _ _ _).mono ?_; rintro e w' ⟨rfl, rfl⟩)
      go_ret2
      exact ⟨tup2 (by simp [subV, h3]) (by simp [subB, h3]), rfl⟩
    · have h4 := no_eq h2
      clear h2
      go_enter Tryd.func18, Tryd.ntmps18
      go_wp2_with (go_at_call 42; refine (both_ok _ _ _).mono ?_; rintro e w' ⟨rfl, rfl⟩)
      go_ret2
      exact ⟨tup2 (by simp [subV, h3]) (by simp [subB, h3]), rfl⟩

theorem spec_div (a b : Int) (w : World) : Calls Tryd.prog 31 #[.int .i64 a, .int .i64 b] w fun e w' => e = .returned (.tuple #[.int .i64 (divV a b), .bool (divB a b)]) ∧ w = w' := by
  by_cases h1 : dOk a = true
  · by_cases h2 : dOk b = true
    · have b1 := dOk_yes h1
      have b2 := dOk_yes h2
      by_cases h0 : (b == 0) = true
      · go_enter Tryd.func31, Tryd.ntmps31
        go_wp2_with (go_at_call 44; refine (spec_ok _ _).mono ?_; rintro e w' ⟨rfl, rfl⟩)
        go_ret2
        exact ⟨tup2 (by simp [divV, h0]) (by simp [divB, h0]), rfl⟩
      · have h4 := no_eq h0
        clear h0
        have hne : b ≠ 0 := by simpa using h4
        have hq := tdiv_bd (a * 1000000) b hne 9000000000000000000 (by omega) (by omega)
        go_enter Tryd.func31, Tryd.ntmps31
        go_wp2_with (first | (go_at_call 44; refine (spec_ok _ _).mono ?_; rintro e w' ⟨rfl, rfl⟩) | (go_at_call 45; refine (spec_made _ _).mono ?_; rintro e w' ⟨rfl, rfl⟩))
        go_ret2
        exact ⟨tup2 (by simp [divV, h1, h2, h4]) (by simp [divB, h1, h2, h4]), rfl⟩
    · have h3 := no_eq h2
      clear h2
      go_enter Tryd.func31, Tryd.ntmps31
      go_wp2_with (go_at_call 44; refine (spec_ok _ _).mono ?_; rintro e w' ⟨rfl, rfl⟩)
      go_ret2
      exact ⟨tup2 (by simp [divV, h3]) (by simp [divB, h3]), rfl⟩
  · have h3 := no_eq h1
    clear h1
    by_cases h2 : dOk b = true
    · go_enter Tryd.func31, Tryd.ntmps31
      go_wp2_with (go_at_call 44; refine (spec_ok _ _).mono ?_; rintro e w' ⟨rfl, rfl⟩)
      go_ret2
      exact ⟨tup2 (by simp [divV, h3]) (by simp [divB, h3]), rfl⟩
    · have h4 := no_eq h2
      clear h2
      go_enter Tryd.func31, Tryd.ntmps31
      go_wp2_with (go_at_call 44; refine (spec_ok _ _).mono ?_; rintro e w' ⟨rfl, rfl⟩)
      go_ret2
      exact ⟨tup2 (by simp [divV, h3]) (by simp [divB, h3]), rfl⟩

theorem impl_div (a b : Int) (w : World) : Calls Tryd.prog 30 #[.int .i64 a, .int .i64 b] w fun e w' => e = .returned (.tuple #[.int .i64 (divV a b), .bool (divB a b)]) ∧ w = w' := by
  by_cases h1 : dOk a = true
  · by_cases h2 : dOk b = true
    · have b1 := dOk_yes h1
      have b2 := dOk_yes h2
      by_cases h0 : (b == 0) = true
      · go_enter Tryd.func30, Tryd.ntmps30
        go_wp2_with (go_at_call 42; refine (both_ok _ _ _).mono ?_; rintro e w' ⟨rfl, rfl⟩)
        go_ret2
        exact ⟨tup2 (by simp [divV, h0]) (by simp [divB, h0]), rfl⟩
      · have h4 := no_eq h0
        clear h0
        have hne : b ≠ 0 := by simpa using h4
        have hq := tdiv_bd (a * 1000000) b hne 9000000000000000000 (by omega) (by omega)
        go_enter Tryd.func30, Tryd.ntmps30
        go_wp2_with (first | (go_at_call 42; refine (both_ok _ _ _).mono ?_; rintro e w' ⟨rfl, rfl⟩) | (go_at_call 43; refine (dec_checked _ _).mono ?_; rintro e w' ⟨rfl, rfl⟩))
        go_ret2
        exact ⟨tup2 (by simp [divV, h1, h2, h4]) (by simp [divB, h1, h2, h4]), rfl⟩
    · have h3 := no_eq h2
      clear h2
      go_enter Tryd.func30, Tryd.ntmps30
      go_wp2_with (go_at_call 42; refine (both_ok _ _ _).mono ?_; rintro e w' ⟨rfl, rfl⟩)
      go_ret2
      exact ⟨tup2 (by simp [divV, h3]) (by simp [divB, h3]), rfl⟩
  · have h3 := no_eq h1
    clear h1
    by_cases h2 : dOk b = true
    · go_enter Tryd.func30, Tryd.ntmps30
      go_wp2_with (go_at_call 42; refine (both_ok _ _ _).mono ?_; rintro e w' ⟨rfl, rfl⟩)
      go_ret2
      exact ⟨tup2 (by simp [divV, h3]) (by simp [divB, h3]), rfl⟩
    · have h4 := no_eq h2
      clear h2
      go_enter Tryd.func30, Tryd.ntmps30
      go_wp2_with (go_at_call 42; refine (both_ok _ _ _).mono ?_; rintro e w' ⟨rfl, rfl⟩)
      go_ret2
      exact ⟨tup2 (by simp [divV, h3]) (by simp [divB, h3]), rfl⟩

theorem spec_mod (a b : Int) (w : World) : Calls Tryd.prog 26 #[.int .i64 a, .int .i64 b] w fun e w' => e = .returned (.tuple #[.int .i64 (modV a b), .bool (modB a b)]) ∧ w = w' := by
  by_cases h1 : dOk a = true
  · by_cases h2 : dOk b = true
    · have b1 := dOk_yes h1
      have b2 := dOk_yes h2
      by_cases h0 : (b == 0) = true
      · go_enter Tryd.func26, Tryd.ntmps26
        go_wp2_with (go_at_call 44; refine (spec_ok _ _).mono ?_; rintro e w' ⟨rfl, rfl⟩)
        go_ret2
        exact ⟨tup2 (by simp [modV, h0]) (by simp [modB, h0]), rfl⟩
      · have h4 := no_eq h0
        clear h0
        have hne : b ≠ 0 := by simpa using h4
        go_enter Tryd.func26, Tryd.ntmps26
        go_wp2_with (go_at_call 44; refine (spec_ok _ _).mono ?_; rintro e w' ⟨rfl, rfl⟩)
        go_ret2
        exact ⟨tup2 (by simp [modV, h1, h2, h4]) (by simp [modB, h1, h2, h4]), rfl⟩
    · have h3 := no_eq h2
      clear h2
      go_enter Tryd.func26, Tryd.ntmps26
      go_wp2_with (go_at_call 44; refine (spec_ok _ _).mono ?_; rintro e w' ⟨rfl, rfl⟩)
      go_ret2
      exact ⟨tup2 (by simp [modV, h3]) (by simp [modB, h3]), rfl⟩
  · have h3 := no_eq h1
    clear h1
    by_cases h2 : dOk b = true
    · go_enter Tryd.func26, Tryd.ntmps26
      go_wp2_with (go_at_call 44; refine (spec_ok _ _).mono ?_; rintro e w' ⟨rfl, rfl⟩)
      go_ret2
      exact ⟨tup2 (by simp [modV, h3]) (by simp [modB, h3]), rfl⟩
    · have h4 := no_eq h2
      clear h2
      go_enter Tryd.func26, Tryd.ntmps26
      go_wp2_with (go_at_call 44; refine (spec_ok _ _).mono ?_; rintro e w' ⟨rfl, rfl⟩)
      go_ret2
      exact ⟨tup2 (by simp [modV, h3]) (by simp [modB, h3]), rfl⟩

theorem impl_mod (a b : Int) (w : World) : Calls Tryd.prog 25 #[.int .i64 a, .int .i64 b] w fun e w' => e = .returned (.tuple #[.int .i64 (modV a b), .bool (modB a b)]) ∧ w = w' := by
  by_cases h1 : dOk a = true
  · by_cases h2 : dOk b = true
    · have b1 := dOk_yes h1
      have b2 := dOk_yes h2
      by_cases h0 : (b == 0) = true
      · go_enter Tryd.func25, Tryd.ntmps25
        go_wp2_with (go_at_call 42; refine (both_ok _ _ _).mono ?_; rintro e w' ⟨rfl, rfl⟩)
        go_ret2
        exact ⟨tup2 (by simp [modV, h0]) (by simp [modB, h0]), rfl⟩
      · have h4 := no_eq h0
        clear h0
        have hne : b ≠ 0 := by simpa using h4
        go_enter Tryd.func25, Tryd.ntmps25
        go_wp2_with (go_at_call 42; refine (both_ok _ _ _).mono ?_; rintro e w' ⟨rfl, rfl⟩)
        go_ret2
        exact ⟨tup2 (by simp [modV, h1, h2, h4]) (by simp [modB, h1, h2, h4]), rfl⟩
    · have h3 := no_eq h2
      clear h2
      go_enter Tryd.func25, Tryd.ntmps25
      go_wp2_with (go_at_call 42; refine (both_ok _ _ _).mono ?_; rintro e w' ⟨rfl, rfl⟩)
      go_ret2
      exact ⟨tup2 (by simp [modV, h3]) (by simp [modB, h3]), rfl⟩
  · have h3 := no_eq h1
    clear h1
    by_cases h2 : dOk b = true
    · go_enter Tryd.func25, Tryd.ntmps25
      go_wp2_with (go_at_call 42; refine (both_ok _ _ _).mono ?_; rintro e w' ⟨rfl, rfl⟩)
      go_ret2
      exact ⟨tup2 (by simp [modV, h3]) (by simp [modB, h3]), rfl⟩
    · have h4 := no_eq h2
      clear h2
      go_enter Tryd.func25, Tryd.ntmps25
      go_wp2_with (go_at_call 42; refine (both_ok _ _ _).mono ?_; rintro e w' ⟨rfl, rfl⟩)
      go_ret2
      exact ⟨tup2 (by simp [modV, h3]) (by simp [modB, h3]), rfl⟩

theorem dec_whole (n : Int) (w : World) (h : dOk n = true) : Calls Tryd.prog 49 #[.int .i64 n] w fun e w' => e = .returned (.int .i64 (intV n)) ∧ w = w' := by
  have hb := dOk_yes h
  have ht := tmod_bd n
  have hi := tmod_le n
  go_enter Tryd.func49, Tryd.ntmps49
  go_wp2
  go_ret
  exact ⟨retI (by simp [intV, h]), rfl⟩


theorem impl_int (n : Int) (w : World) : Calls Tryd.prog 27 #[.int .i64 n] w fun e w' => e = .returned (.int .i64 (intV n)) ∧ w = w' := by
  by_cases h : dOk n = true
  · have hb := dOk_yes h
    have ht := tmod_bd n
    have hi := tmod_le n
    go_enter Tryd.func27, Tryd.ntmps27
    go_wp2_with (first | (go_at_call 11; refine (impl_ok _ _).mono ?_; rintro e w' ⟨rfl, rfl⟩) | (go_at_call 49; refine (dec_whole _ _ h).mono ?_; rintro e w' ⟨rfl, rfl⟩))
    go_ret
    exact ⟨retI (rfl), rfl⟩
  · have hf := no_eq h
    clear h
    go_enter Tryd.func27, Tryd.ntmps27
    go_wp2_with (go_at_call 11; refine (impl_ok _ _).mono ?_; rintro e w' ⟨rfl, rfl⟩)
    go_ret
    exact ⟨retI (by simp [intV, hf]), rfl⟩


theorem impl_neg (n : Int) (w : World) : Calls Tryd.prog 19 #[.int .i64 n] w fun e w' => e = .returned (.int .i64 (negV n)) ∧ w = w' := by
  by_cases h : dOk n = true
  · have hb := dOk_yes h
    have ht := tmod_bd n
    have hi := tmod_le n
    go_enter Tryd.func19, Tryd.ntmps19
    go_wp2_with (go_at_call 11; refine (impl_ok _ _).mono ?_; rintro e w' ⟨rfl, rfl⟩)
    go_ret
    exact ⟨retI (by simp [negV, h]), rfl⟩
  · have hf := no_eq h
    clear h
    go_enter Tryd.func19, Tryd.ntmps19
    go_wp2_with (go_at_call 11; refine (impl_ok _ _).mono ?_; rintro e w' ⟨rfl, rfl⟩)
    go_ret
    exact ⟨retI (by simp [negV, hf]), rfl⟩


theorem impl_frac (n : Int) (w : World) : Calls Tryd.prog 28 #[.int .i64 n] w fun e w' => e = .returned (.int .i64 (fracV n)) ∧ w = w' := by
  by_cases h : dOk n = true
  · have hb := dOk_yes h
    have ht := tmod_bd n
    have hi := tmod_le n
    have hv := intV_bd n
    go_enter Tryd.func28, Tryd.ntmps28
    go_wp2_with (first | (go_at_call 11; refine (impl_ok _ _).mono ?_; rintro e w' ⟨rfl, rfl⟩) | (go_at_call 27; refine (impl_int _ _).mono ?_; rintro e w' ⟨rfl, rfl⟩))
    go_ret
    exact ⟨retI (by simp [fracV, intV, h]; omega), rfl⟩
  · have hf := no_eq h
    clear h
    go_enter Tryd.func28, Tryd.ntmps28
    go_wp2_with (go_at_call 11; refine (impl_ok _ _).mono ?_; rintro e w' ⟨rfl, rfl⟩)
    go_ret
    exact ⟨retI (by simp [fracV, hf]), rfl⟩

end Go.Proofs.YtbibiddpocjkaaaDoor.Dec
