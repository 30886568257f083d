/-
  What each function of the first chapter, of the program and of its model, returns: a contract a function.
-/
import Derived.Test.YtofinndkbjcgbaaChecked
import Derived.Test.YtofinndkbjcgbaaDecPure
import Derived.WalkKit
import Derived.ProofKit
import Derived.OpenShut
import Derived.Handy
import Derived.Lib.Hide
import Derived.Outline
namespace Go.Proofs.Ytofinndkbjcgbaa.Dec
open Go.ChangeShapes Go.WideShapes Go.ChangeAt Go.RowKit
open Go.Proofs.Ytofinndkbjcgbaa.DecPure
set_option linter.unusedVariables false

theorem spec_ok (n : Int) (w : World) : Calls Try.prog 20 #[.int .i64 n] w fun e w' => e = .returned (.bool (dOk n)) ∧ w = w' := by
  by_cases h : dOk n = true
  · have hb := dOk_yes h
    have H := Lib.hid h; clear h
    go_enter Try.func20, Try.ntmps20
    go_wp2
    go_ret
    exact ⟨retB H.out.symm, rfl⟩
  · have hf := no_eq h
    have H := Lib.hid hf; clear hf
    rcases dOk_no h with hb | hb
    · clear h
      go_enter Try.func20, Try.ntmps20
      go_wp2
      go_ret
      exact ⟨retB H.out.symm, rfl⟩
    · clear h
      have d1 : decide (n ≤ 9000000000000) = false := by simp; omega
      have d2 : -9000000000000 ≤ n := by omega
      go_enter Try.func20, Try.ntmps20
      go_wp2
      go_ret
      exact ⟨retB H.out.symm, rfl⟩

theorem dec_ok (n : Int) (w : World) : Calls Try.prog 48 #[.int .i64 n] w fun e w' => e = .returned (.bool (dOk n)) ∧ w = w' := by
  by_cases h : dOk n = true
  · have hb := dOk_yes h
    have H := Lib.hid h; clear h
    go_enter Try.func48, Try.ntmps48
    go_wp2
    go_ret
    exact ⟨retB H.out.symm, rfl⟩
  · have hf := no_eq h
    have H := Lib.hid hf; clear hf
    rcases dOk_no h with hb | hb
    · clear h
      go_enter Try.func48, Try.ntmps48
      go_wp2
      go_ret
      exact ⟨retB H.out.symm, rfl⟩
    · clear h
      have d1 : decide (n ≤ 9000000000000) = false := by simp; omega
      have d2 : -9000000000000 ≤ n := by omega
      go_enter Try.func48, Try.ntmps48
      go_wp2
      go_ret
      exact ⟨retB H.out.symm, rfl⟩

theorem impl_ok (n : Int) (w : World) : Calls Try.prog 44 #[.int .i64 n] w fun e w' => e = .returned (.bool (dOk n)) ∧ w = w' := by
  go_enter Try.func44, Try.ntmps44
  go_wp2_with (go_at_call 48; refine (dec_ok _ _).mono ?_; rintro e w' ⟨rfl, rfl⟩)
  go_ret
  exact ⟨rfl, rfl⟩

theorem both_ok (a b : Int) (w : World) : Calls Try.prog 40 #[.int .i64 a, .int .i64 b] w fun e w' => e = .returned (.bool (dOk a && dOk b)) ∧ w = w' := by
  by_cases h : dOk a = true
  · go_enter Try.func40, Try.ntmps40
    go_wp2_with (go_at_call 48; refine (dec_ok _ _).mono ?_; rintro e w' ⟨rfl, rfl⟩)
    go_ret
    exact ⟨retB (by simp [h]), rfl⟩
  · have hf := no_eq h
    clear h
    go_enter Try.func40, Try.ntmps40
    go_wp2_with (go_at_call 48; refine (dec_ok _ _).mono ?_; rintro e w' ⟨rfl, rfl⟩)
    go_ret
    exact ⟨retB (by simp [hf]), rfl⟩

theorem spec_made (n : Int) (w : World) : Calls Try.prog 23 #[.int .i64 n] w fun e w' => e = .returned (.tuple #[.int .i64 (mkV n), .bool (dOk n)]) ∧ w = w' := by
  by_cases h : dOk n = true
  · go_enter Try.func23, Try.ntmps23
    go_wp2_with (go_at_call 20; refine (spec_ok _ _).mono ?_; rintro e w' ⟨rfl, rfl⟩)
    go_ret2
    exact ⟨tup2 (mkV_yes h).symm h.symm, rfl⟩
  · have hf := no_eq h
    clear h
    go_enter Try.func23, Try.ntmps23
    go_wp2_with (go_at_call 20; refine (spec_ok _ _).mono ?_; rintro e w' ⟨rfl, rfl⟩)
    go_ret2
    exact ⟨tup2 (mkV_no hf).symm hf.symm, rfl⟩

theorem dec_checked (n : Int) (w : World) : Calls Try.prog 41 #[.int .i64 n] w fun e w' => e = .returned (.tuple #[.int .i64 (mkV n), .bool (dOk n)]) ∧ w = w' := by
  by_cases h : dOk n = true
  · go_enter Try.func41, Try.ntmps41
    go_wp2_with (go_at_call 48; refine (dec_ok _ _).mono ?_; rintro e w' ⟨rfl, rfl⟩)
    go_ret2
    exact ⟨tup2 (mkV_yes h).symm h.symm, rfl⟩
  · have hf := no_eq h
    clear h
    go_enter Try.func41, Try.ntmps41
    go_wp2_with (go_at_call 48; refine (dec_ok _ _).mono ?_; rintro e w' ⟨rfl, rfl⟩)
    go_ret2
    exact ⟨tup2 (mkV_no hf).symm hf.symm, rfl⟩

theorem spec_add (a b : Int) (w : World) : Calls Try.prog 11 #[.int .i64 a, .int .i64 b] w fun e w' => e = .returned (.tuple #[.int .i64 (addV a b), .bool (addB a b)]) ∧ w = w' := by
  by_cases h1 : dOk a = true
  · by_cases h2 : dOk b = true
    · have b1 := dOk_yes h1
      have b2 := dOk_yes h2
      go_enter Try.func11, Try.ntmps11
      go_wp2_with (first | (go_at_call 20; refine (spec_ok _ _).mono ?_; rintro e w' ⟨rfl, rfl⟩) | (go_at_call 23; refine (spec_made _ _).mono ?_; rintro e w' ⟨rfl, rfl⟩))
      go_ret2
      exact ⟨tup2 (by simp [addV, h1, h2]) (by simp [addB, h1, h2]), rfl⟩
    · have h3 := no_eq h2
      clear h2
      go_enter Try.func11, Try.ntmps11
      go_wp2_with (go_at_call 20; refine (spec_ok _ _).mono ?_; rintro e w' ⟨rfl, rfl⟩)
      go_ret2
      exact ⟨tup2 (by simp [addV, h3]) (by simp [addB, h3]), rfl⟩
  · have h3 := no_eq h1
    clear h1
    by_cases h2 : dOk b = true
    · go_enter Try.func11, Try.ntmps11
      go_wp2_with (go_at_call 20; refine (spec_ok _ _).mono ?_; rintro e w' ⟨rfl, rfl⟩)
      go_ret2
      exact ⟨tup2 (by simp [addV, h3]) (by simp [addB, h3]), rfl⟩
    · have h4 := no_eq h2
      clear h2
      go_enter Try.func11, Try.ntmps11
      go_wp2_with (go_at_call 20; refine (spec_ok _ _).mono ?_; rintro e w' ⟨rfl, rfl⟩)
      go_ret2
      exact ⟨tup2 (by simp [addV, h3]) (by simp [addB, h3]), rfl⟩

theorem impl_add (a b : Int) (w : World) : Calls Try.prog 28 #[.int .i64 a, .int .i64 b] w fun e w' => e = .returned (.tuple #[.int .i64 (addV a b), .bool (addB a b)]) ∧ w = w' := by
  by_cases h1 : dOk a = true
  · by_cases h2 : dOk b = true
    · have b1 := dOk_yes h1
      have b2 := dOk_yes h2
      go_enter Try.func28, Try.ntmps28
      go_wp2_with (first | (go_at_call 40; refine (both_ok _ _ _).mono ?_; rintro e w' ⟨rfl, rfl⟩) | (go_at_call 41; refine (dec_checked _ _).mono ?_; rintro e w' ⟨rfl, rfl⟩))
      go_ret2
      exact ⟨tup2 (by simp [addV, h1, h2]) (by simp [addB, h1, h2]), rfl⟩
    · have h3 := no_eq h2
      clear h2
      go_enter Try.func28, Try.ntmps28
      go_wp2_with (go_at_call 40; refine (both_ok _ _ _).mono ?_; rintro e w' ⟨rfl, rfl⟩)
      go_ret2
      exact ⟨tup2 (by simp [addV, h3]) (by simp [addB, h3]), rfl⟩
  · have h3 := no_eq h1
    clear h1
    by_cases h2 : dOk b = true
    · go_enter Try.func28, Try.ntmps28
      go_wp2_with (go_at_call 40; refine (both_ok _ _ _).mono ?_; rintro e w' ⟨rfl, rfl⟩)
      go_ret2
      exact ⟨tup2 (by simp [addV, h3]) (by simp [addB, h3]), rfl⟩
    · have h4 := no_eq h2
      clear h2
      go_enter Try.func28, Try.ntmps28
      go_wp2_with (go_at_call 40; refine (both_ok _ _ _).mono ?_; rintro e w' ⟨rfl, rfl⟩)
      go_ret2
      exact ⟨tup2 (by simp [addV, h3]) (by simp [addB, h3]), rfl⟩

theorem spec_sub (a b : Int) (w : World) : Calls Try.prog 12 #[.int .i64 a, .int .i64 b] w fun e w' => e = .returned (.tuple #[.int .i64 (subV a b), .bool (subB a b)]) ∧ w = w' := by
  by_cases h1 : dOk a = true
  · by_cases h2 : dOk b = true
    · have b1 := dOk_yes h1
      have b2 := dOk_yes h2
      go_enter Try.func12, Try.ntmps12
      go_wp2_with (first | (go_at_call 20; refine (spec_ok _ _).mono ?_; rintro e w' ⟨rfl, rfl⟩) | (go_at_call 23; refine (spec_made _ _).mono ?_; rintro e w' ⟨rfl, rfl⟩))
      go_ret2
      exact ⟨tup2 (by simp [subV, h1, h2]) (by simp [subB, h1, h2]), rfl⟩
    · have h3 := no_eq h2
      clear h2
      go_enter Try.func12, Try.ntmps12
      go_wp2_with (go_at_call 20; refine (spec_ok _ _).mono ?_; rintro e w' ⟨rfl, rfl⟩)
      go_ret2
      exact ⟨tup2 (by simp [subV, h3]) (by simp [subB, h3]), rfl⟩
  · have h3 := no_eq h1
    clear h1
    by_cases h2 : dOk b = true
    · go_enter Try.func12, Try.ntmps12
      go_wp2_with (go_at_call 20; refine (spec_ok _ _).mono ?_; rintro e w' ⟨rfl, rfl⟩)
      go_ret2
      exact ⟨tup2 (by simp [subV, h3]) (by simp [subB, h3]), rfl⟩
    · have h4 := no_eq h2
      clear h2
      go_enter Try.func12, Try.ntmps12
      go_wp2_with (go_at_call 20; refine (spec_ok _ _).mono ?_; rintro e w' ⟨rfl, rfl⟩)
      go_ret2
      exact ⟨tup2 (by simp [subV, h3]) (by simp [subB, h3]), rfl⟩

theorem impl_sub (a b : Int) (w : World) : Calls Try.prog 29 #[.int .i64 a, .int .i64 b] w fun e w' => e = .returned (.tuple #[.int .i64 (subV a b), .bool (subB a b)]) ∧ w = w' := by
  by_cases h1 : dOk a = true
  · by_cases h2 : dOk b = true
    · have b1 := dOk_yes h1
      have b2 := dOk_yes h2
      go_enter Try.func29, Try.ntmps29
      go_wp2_with (first | (go_at_call 40; refine (both_ok _ _ _).mono ?_; rintro e w' ⟨rfl, rfl⟩) | (go_at_call 41; refine (dec_checked _ _).mono ?_; rintro e w' ⟨rfl, rfl⟩))
      go_ret2
      exact ⟨tup2 (by simp [subV, h1, h2]) (by simp [subB, h1, h2]), rfl⟩
    · have h3 := no_eq h2
      clear h2
      go_enter Try.func29, Try.ntmps29
      go_wp2_with (go_at_call 40; refine (both_ok _ _ _).mono ?_; rintro e w' ⟨rfl, rfl⟩)
      go_ret2
      exact ⟨tup2 (by simp [subV, h3]) (by simp [subB, h3]), rfl⟩
  · have h3 := no_eq h1
    clear h1
    by_cases h2 : dOk b = true
    · go_enter Try.func29, Try.ntmps29
      go_wp2_with (go_at_call 40; refine (both_ok _ _ _).mono ?_; rintro e w' ⟨rfl, rfl⟩)
      go_ret2
      exact ⟨tup2 (by simp [subV, h3]) (by simp [subB, h3]), rfl⟩
    · have h4 := no_eq h2
      clear h2
      go_enter Try.func29, Try.ntmps29
      go_wp2_with (go_at_call 40; refine (both_ok _ _ _).mono ?_; rintro e w' ⟨rfl, rfl⟩)
      go_ret2
      exact ⟨tup2 (by simp [subV, h3]) (by simp [subB, h3]), rfl⟩

theorem spec_div (a b : Int) (w : World) : Calls Try.prog 14 #[.int .i64 a, .int .i64 b] w fun e w' => e = .returned (.tuple #[.int .i64 (divV a b), .bool (divB a b)]) ∧ w = w' := by
  by_cases h1 : dOk a = true
  · by_cases h2 : dOk b = true
    · have b1 := dOk_yes h1
      have b2 := dOk_yes h2
      by_cases h0 : (b == 0) = true
      · go_enter Try.func14, Try.ntmps14
        go_wp2_with (go_at_call 20; refine (spec_ok _ _).mono ?_; rintro e w' ⟨rfl, rfl⟩)
        go_ret2
        exact ⟨tup2 (by simp [divV, h0]) (by simp [divB, h0]), rfl⟩
      · have h4 := no_eq h0
        clear h0
        have hne : b ≠ 0 := by simpa using h4
        have hq := tdiv_bd (a * 1000000) b hne 9000000000000000000 (by omega) (by omega)
        go_enter Try.func14, Try.ntmps14
        go_wp2_with (first | (go_at_call 20; refine (spec_ok _ _).mono ?_; rintro e w' ⟨rfl, rfl⟩) | (go_at_call 23; refine (spec_made _ _).mono ?_; rintro e w' ⟨rfl, rfl⟩))
        go_ret2
        exact ⟨tup2 (by simp [divV, h1, h2, h4]) (by simp [divB, h1, h2, h4]), rfl⟩
    · have h3 := no_eq h2
      clear h2
      go_enter Try.func14, Try.ntmps14
      go_wp2_with (go_at_call 20; refine (spec_ok _ _).mono ?_; rintro e w' ⟨rfl, rfl⟩)
      go_ret2
      exact ⟨tup2 (by simp [divV, h3]) (by simp [divB, h3]), rfl⟩
  · have h3 := no_eq h1
    clear h1
    by_cases h2 : dOk b = true
    · go_enter Try.func14, Try.ntmps14
      go_wp2_with (go_at_call 20; refine (spec_ok _ _).mono ?_; rintro e w' ⟨rfl, rfl⟩)
      go_ret2
      exact ⟨tup2 (by simp [divV, h3]) (by simp [divB, h3]), rfl⟩
    · have h4 := no_eq h2
      clear h2
      go_enter Try.func14, Try.ntmps14
      go_wp2_with (go_at_call 20; refine (spec_ok _ _).mono ?_; rintro e w' ⟨rfl, rfl⟩)
      go_ret2
      exact ⟨tup2 (by simp [divV, h3]) (by simp [divB, h3]), rfl⟩

theorem impl_div (a b : Int) (w : World) : Calls Try.prog 31 #[.int .i64 a, .int .i64 b] w fun e w' => e = .returned (.tuple #[.int .i64 (divV a b), .bool (divB a b)]) ∧ w = w' := by
  by_cases h1 : dOk a = true
  · by_cases h2 : dOk b = true
    · have b1 := dOk_yes h1
      have b2 := dOk_yes h2
      by_cases h0 : (b == 0) = true
      · go_enter Try.func31, Try.ntmps31
        go_wp2_with (go_at_call 40; refine (both_ok _ _ _).mono ?_; rintro e w' ⟨rfl, rfl⟩)
        go_ret2
        exact ⟨tup2 (by simp [divV, h0]) (by simp [divB, h0]), rfl⟩
      · have h4 := no_eq h0
        clear h0
        have hne : b ≠ 0 := by simpa using h4
        have hq := tdiv_bd (a * 1000000) b hne 9000000000000000000 (by omega) (by omega)
        go_enter Try.func31, Try.ntmps31
        go_wp2_with (first | (go_at_call 40; refine (both_ok _ _ _).mono ?_; rintro e w' ⟨rfl, rfl⟩) | (go_at_call 41; refine (dec_checked _ _).mono ?_; rintro e w' ⟨rfl, rfl⟩))
        go_ret2
        exact ⟨tup2 (by simp [divV, h1, h2, h4]) (by simp [divB, h1, h2, h4]), rfl⟩
    · have h3 := no_eq h2
      clear h2
      go_enter Try.func31, Try.ntmps31
      go_wp2_with (go_at_call 40; refine (both_ok _ _ _).mono ?_; rintro e w' ⟨rfl, rfl⟩)
      go_ret2
      exact ⟨tup2 (by simp [divV, h3]) (by simp [divB, h3]), rfl⟩
  · have h3 := no_eq h1
    clear h1
    by_cases h2 : dOk b = true
    · go_enter Try.func31, Try.ntmps31
      go_wp2_with (go_at_call 40; refine (both_ok _ _ _).mono ?_; rintro e w' ⟨rfl, rfl⟩)
      go_ret2
      exact ⟨tup2 (by simp [divV, h3]) (by simp [divB, h3]), rfl⟩
    · have h4 := no_eq h2
      clear h2
      go_enter Try.func31, Try.ntmps31
      go_wp2_with (go_at_call 40; refine (both_ok _ _ _).mono ?_; rintro e w' ⟨rfl, rfl⟩)
      go_ret2
      exact ⟨tup2 (by simp [divV, h3]) (by simp [divB, h3]), rfl⟩

theorem spec_mod (a b : Int) (w : World) : Calls Try.prog 15 #[.int .i64 a, .int .i64 b] w fun e w' => e = .returned (.tuple #[.int .i64 (modV a b), .bool (modB a b)]) ∧ w = w' := by
  by_cases h1 : dOk a = true
  · by_cases h2 : dOk b = true
    · have b1 := dOk_yes h1
      have b2 := dOk_yes h2
      by_cases h0 : (b == 0) = true
      · go_enter Try.func15, Try.ntmps15
        go_wp2_with (go_at_call 20; refine (spec_ok _ _).mono ?_; rintro e w' ⟨rfl, rfl⟩)
        go_ret2
        exact ⟨tup2 (by simp [modV, h0]) (by simp [modB, h0]), rfl⟩
      · have h4 := no_eq h0
        clear h0
        have hne : b ≠ 0 := by simpa using h4
        go_enter Try.func15, Try.ntmps15
        go_wp2_with (go_at_call 20; refine (spec_ok _ _).mono ?_; rintro e w' ⟨rfl, rfl⟩)
        go_ret2
        exact ⟨tup2 (by simp [modV, h1, h2, h4]) (by simp [modB, h1, h2, h4]), rfl⟩
    · have h3 := no_eq h2
      clear h2
      go_enter Try.func15, Try.ntmps15
      go_wp2_with (go_at_call 20; refine (spec_ok _ _).mono ?_; rintro e w' ⟨rfl, rfl⟩)
      go_ret2
      exact ⟨tup2 (by simp [modV, h3]) (by simp [modB, h3]), rfl⟩
  · have h3 := no_eq h1
    clear h1
    by_cases h2 : dOk b = true
    · go_enter Try.func15, Try.ntmps15
      go_wp2_with (go_at_call 20; refine (spec_ok _ _).mono ?_; rintro e w' ⟨rfl, rfl⟩)
      go_ret2
      exact ⟨tup2 (by simp [modV, h3]) (by simp [modB, h3]), rfl⟩
    · have h4 := no_eq h2
      clear h2
      go_enter Try.func15, Try.ntmps15
      go_wp2_with (go_at_call 20; refine (spec_ok _ _).mono ?_; rintro e w' ⟨rfl, rfl⟩)
      go_ret2
      exact ⟨tup2 (by simp [modV, h3]) (by simp [modB, h3]), rfl⟩

theorem impl_mod (a b : Int) (w : World) : Calls Try.prog 32 #[.int .i64 a, .int .i64 b] w fun e w' => e = .returned (.tuple #[.int .i64 (modV a b), .bool (modB a b)]) ∧ w = w' := by
  by_cases h1 : dOk a = true
  · by_cases h2 : dOk b = true
    · have b1 := dOk_yes h1
      have b2 := dOk_yes h2
      by_cases h0 : (b == 0) = true
      · go_enter Try.func32, Try.ntmps32
        go_wp2_with (go_at_call 40; refine (both_ok _ _ _).mono ?_; rintro e w' ⟨rfl, rfl⟩)
        go_ret2
        exact ⟨tup2 (by simp [modV, h0]) (by simp [modB, h0]), rfl⟩
      · have h4 := no_eq h0
        clear h0
        have hne : b ≠ 0 := by simpa using h4
        go_enter Try.func32, Try.ntmps32
        go_wp2_with (go_at_call 40; refine (both_ok _ _ _).mono ?_; rintro e w' ⟨rfl, rfl⟩)
        go_ret2
        exact ⟨tup2 (by simp [modV, h1, h2, h4]) (by simp [modB, h1, h2, h4]), rfl⟩
    · have h3 := no_eq h2
      clear h2
      go_enter Try.func32, Try.ntmps32
      go_wp2_with (go_at_call 40; refine (both_ok _ _ _).mono ?_; rintro e w' ⟨rfl, rfl⟩)
      go_ret2
      exact ⟨tup2 (by simp [modV, h3]) (by simp [modB, h3]), rfl⟩
  · have h3 := no_eq h1
    clear h1
    by_cases h2 : dOk b = true
    · go_enter Try.func32, Try.ntmps32
      go_wp2_with (go_at_call 40; refine (both_ok _ _ _).mono ?_; rintro e w' ⟨rfl, rfl⟩)
      go_ret2
      exact ⟨tup2 (by simp [modV, h3]) (by simp [modB, h3]), rfl⟩
    · have h4 := no_eq h2
      clear h2
      go_enter Try.func32, Try.ntmps32
      go_wp2_with (go_at_call 40; refine (both_ok _ _ _).mono ?_; rintro e w' ⟨rfl, rfl⟩)
      go_ret2
      exact ⟨tup2 (by simp [modV, h3]) (by simp [modB, h3]), rfl⟩








end Go.Proofs.Ytofinndkbjcgbaa.Dec
