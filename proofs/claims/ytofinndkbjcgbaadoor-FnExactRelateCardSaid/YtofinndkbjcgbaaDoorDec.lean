/-
  What each function of the first chapter, of the program and of its model, returns: a contract a function.
-/
import Derived.Test.YtofinndkbjcgbaaDoorChecked
import Derived.Test.YtofinndkbjcgbaaDoorDecPure
import Derived.WalkKit
import Derived.ProofKit
import Derived.OpenShut
import Derived.Handy
import Derived.Lib.Hide
import Derived.Outline
namespace Go.Proofs.YtofinndkbjcgbaaDoor.Dec
open Go.ChangeShapes Go.WideShapes Go.ChangeAt Go.RowKit
open Go.Proofs.YtofinndkbjcgbaaDoor.DecPure
set_option linter.unusedVariables false

theorem spec_ok (n : Int) (w : World) : Calls Tryd.prog 55 #[.int .i64 n] w fun e w' => e = .returned (.bool (dOk n)) ∧ w = w' := by
  by_cases h : dOk n = true
  · have hb := dOk_yes h
    have H := Lib.hid h; clear h
    go_enter Tryd.func55, Tryd.ntmps55
    go_wp2
    go_ret
    exact ⟨retB H.out.symm, rfl⟩
  · have hf := no_eq h
    have H := Lib.hid hf; clear hf
    rcases dOk_no h with hb | hb
    · clear h
      go_enter Tryd.func55, Tryd.ntmps55
      go_wp2
      go_ret
      exact ⟨retB H.out.symm, rfl⟩
    · clear h
      have d1 : decide (n ≤ 9000000000000) = false := by simp; omega
      have d2 : -9000000000000 ≤ n := by omega
      go_enter Tryd.func55, Tryd.ntmps55
      go_wp2
      go_ret
      exact ⟨retB H.out.symm, rfl⟩

theorem dec_ok (n : Int) (w : World) : Calls Tryd.prog 119 #[.int .i64 n] w fun e w' => e = .returned (.bool (dOk n)) ∧ w = w' := by
  by_cases h : dOk n = true
  · have hb := dOk_yes h
    have H := Lib.hid h; clear h
    go_enter Tryd.func119, Tryd.ntmps119
    go_wp2
    go_ret
    exact ⟨retB H.out.symm, rfl⟩
  · have hf := no_eq h
    have H := Lib.hid hf; clear hf
    rcases dOk_no h with hb | hb
    · clear h
      go_enter Tryd.func119, Tryd.ntmps119
      go_wp2
      go_ret
      exact ⟨retB H.out.symm, rfl⟩
    · clear h
      have d1 : decide (n ≤ 9000000000000) = false := by simp; omega
      have d2 : -9000000000000 ≤ n := by omega
      go_enter Tryd.func119, Tryd.ntmps119
      go_wp2
      go_ret
      exact ⟨retB H.out.symm, rfl⟩

theorem impl_ok (n : Int) (w : World) : Calls Tryd.prog 97 #[.int .i64 n] w fun e w' => e = .returned (.bool (dOk n)) ∧ w = w' := by
  go_enter Tryd.func97, Tryd.ntmps97
  go_wp2_with (go_at_call 119; refine (dec_ok _ _).mono ?_; rintro e w' ⟨rfl, rfl⟩)
  go_ret
  exact ⟨rfl, rfl⟩

theorem both_ok (a b : Int) (w : World) : Calls Tryd.prog 116 #[.int .i64 a, .int .i64 b] w fun e w' => e = .returned (.bool (dOk a && dOk b)) ∧ w = w' := by
  by_cases h : dOk a = true
  · go_enter Tryd.func116, Tryd.ntmps116
    go_wp2_with (go_at_call 119; refine (dec_ok _ _).mono ?_; rintro e w' ⟨rfl, rfl⟩)
    go_ret
    exact ⟨retB (by simp [h]), rfl⟩
  · have hf := no_eq h
    clear h
    go_enter Tryd.func116, Tryd.ntmps116
    go_wp2_with (go_at_call 119; refine (dec_ok _ _).mono ?_; rintro e w' ⟨rfl, rfl⟩)
    go_ret
    exact ⟨retB (by simp [hf]), rfl⟩

theorem spec_made (n : Int) (w : World) : Calls Tryd.prog 96 #[.int .i64 n] w fun e w' => e = .returned (.tuple #[.int .i64 (mkV n), .bool (dOk n)]) ∧ w = w' := by
  by_cases h : dOk n = true
  · go_enter Tryd.func96, Tryd.ntmps96
    go_wp2_with (go_at_call 55; refine (spec_ok _ _).mono ?_; rintro e w' ⟨rfl, rfl⟩)
    go_ret2
    exact ⟨tup2 (mkV_yes h).symm h.symm, rfl⟩
  · have hf := no_eq h
    clear h
    go_enter Tryd.func96, Tryd.ntmps96
    go_wp2_with (go_at_call 55; refine (spec_ok _ _).mono ?_; rintro e w' ⟨rfl, rfl⟩)
    go_ret2
    exact ⟨tup2 (mkV_no hf).symm hf.symm, rfl⟩

theorem dec_checked (n : Int) (w : World) : Calls Tryd.prog 117 #[.int .i64 n] w fun e w' => e = .returned (.tuple #[.int .i64 (mkV n), .bool (dOk n)]) ∧ w = w' := by
  by_cases h : dOk n = true
  · go_enter Tryd.func117, Tryd.ntmps117
    go_wp2_with (go_at_call 119; refine (dec_ok _ _).mono ?_; rintro e w' ⟨rfl, rfl⟩)
    go_ret2
    exact ⟨tup2 (mkV_yes h).symm h.symm, rfl⟩
  · have hf := no_eq h
    clear h
    go_enter Tryd.func117, Tryd.ntmps117
    go_wp2_with (go_at_call 119; refine (dec_ok _ _).mono ?_; rintro e w' ⟨rfl, rfl⟩)
    go_ret2
    exact ⟨tup2 (mkV_no hf).symm hf.symm, rfl⟩

theorem spec_add (a b : Int) (w : World) : Calls Tryd.prog 65 #[.int .i64 a, .int .i64 b] w fun e w' => e = .returned (.tuple #[.int .i64 (addV a b), .bool (addB a b)]) ∧ w = w' := by
  by_cases h1 : dOk a = true
  · by_cases h2 : dOk b = true
    · have b1 := dOk_yes h1
      have b2 := dOk_yes h2
      go_enter Tryd.func65, Tryd.ntmps65
      go_wp2_with (first | (go_at_call 55; refine (spec_ok _ _).mono ?_; rintro e w' ⟨rfl, rfl⟩) | (go_at_call 96; refine (spec_made _ _).mono ?_; rintro e w' ⟨rfl, rfl⟩))
      go_ret2
      exact ⟨tup2 (by simp [addV, h1, h2]) (by simp [addB, h1, h2]), rfl⟩
    · have h3 := no_eq h2
      clear h2
      go_enter Tryd.func65, Tryd.ntmps65
      go_wp2_with (go_at_call 55; refine (spec_ok _ _).mono ?_; rintro e w' ⟨rfl, rfl⟩)
      go_ret2
      exact ⟨tup2 (by simp [addV, h3]) (by simp [addB, h3]), rfl⟩
  · have h3 := no_eq h1
    clear h1
    by_cases h2 : dOk b = true
    · go_enter Tryd.func65, Tryd.ntmps65
      go_wp2_with (go_at_call 55; refine (spec_ok _ _).mono ?_; rintro e w' ⟨rfl, rfl⟩)
      go_ret2
      exact ⟨tup2 (by simp [addV, h3]) (by simp [addB, h3]), rfl⟩
    · have h4 := no_eq h2
      clear h2
      go_enter Tryd.func65, Tryd.ntmps65
      go_wp2_with (go_at_call 55; refine (spec_ok _ _).mono ?_; rintro e w' ⟨rfl, rfl⟩)
      go_ret2
      exact ⟨tup2 (by simp [addV, h3]) (by simp [addB, h3]), rfl⟩

theorem impl_add (a b : Int) (w : World) : Calls Tryd.prog 91 #[.int .i64 a, .int .i64 b] w fun e w' => e = .returned (.tuple #[.int .i64 (addV a b), .bool (addB a b)]) ∧ w = w' := by
  by_cases h1 : dOk a = true
  · by_cases h2 : dOk b = true
    · have b1 := dOk_yes h1
      have b2 := dOk_yes h2
      go_enter Tryd.func91, Tryd.ntmps91
      go_wp2_with (first | (go_at_call 116; refine (both_ok _ _ _).mono ?_; rintro e w' ⟨rfl, rfl⟩) | (go_at_call 117; refine (dec_checked _ _).mono ?_; rintro e w' ⟨rfl, rfl⟩))
      go_ret2
      exact ⟨tup2 (by simp [addV, h1, h2]) (by simp [addB, h1, h2]), rfl⟩
    · have h3 := no_eq h2
      clear h2
      go_enter Tryd.func91, Tryd.ntmps91
      go_wp2_with (go_at_call 116; refine (both_ok _ _ _).mono ?_; rintro e w' ⟨rfl, rfl⟩)
      go_ret2
      exact ⟨tup2 (by simp [addV, h3]) (by simp [addB, h3]), rfl⟩
  · have h3 := no_eq h1
    clear h1
    by_cases h2 : dOk b = true
    · go_enter Tryd.func91, Tryd.ntmps91
      go_wp2_with (go_at_call 116; refine (both_ok _ _ _).mono ?_; rintro e w' ⟨rfl, rfl⟩)
      go_ret2
      exact ⟨tup2 (by simp [addV, h3]) (by simp [addB, h3]), rfl⟩
    · have h4 := no_eq h2
      clear h2
      go_enter Tryd.func91, Tryd.ntmps91
      go_wp2_with (go_at_call 116; refine (both_ok _ _ _).mono ?_; rintro e w' ⟨rfl, rfl⟩)
      go_ret2
      exact ⟨tup2 (by simp [addV, h3]) (by simp [addB, h3]), rfl⟩

theorem spec_sub (a b : Int) (w : World) : Calls Tryd.prog 66 #[.int .i64 a, .int .i64 b] w fun e w' => e = .returned (.tuple #[.int .i64 (subV a b), .bool (subB a b)]) ∧ w = w' := by
  by_cases h1 : dOk a = true
  · by_cases h2 : dOk b = true
    · have b1 := dOk_yes h1
      have b2 := dOk_yes h2
      go_enter Tryd.func66, Tryd.ntmps66
      go_wp2_with (first | (go_at_call 55; refine (spec_ok _ _).mono ?_; rintro e w' ⟨rfl, rfl⟩) | (go_at_call 96; refine (spec_made _ _).mono ?_; rintro e w' ⟨rfl, rfl⟩))
      go_ret2
      exact ⟨tup2 (by simp [subV, h1, h2]) (by simp [subB, h1, h2]), rfl⟩
    · have h3 := no_eq h2
      clear h2
      go_enter Tryd.func66, Tryd.ntmps66
      go_wp2_with (go_at_call 55; refine (spec_ok _ _).mono ?_; rintro e w' ⟨rfl, rfl⟩)
      go_ret2
      exact ⟨tup2 (by simp [subV, h3]) (by simp [subB, h3]), rfl⟩
  · have h3 := no_eq h1
    clear h1
    by_cases h2 : dOk b = true
    · go_enter Tryd.func66, Tryd.ntmps66
      go_wp2_with (go_at_call 55; refine (spec_ok _ _).mono ?_; rintro e w' ⟨rfl, rfl⟩)
      go_ret2
      exact ⟨tup2 (by simp [subV, h3]) (by simp [subB, h3]), rfl⟩
    · have h4 := no_eq h2
      clear h2
      go_enter Tryd.func66, Tryd.ntmps66
      go_wp2_with (go_at_call 55; refine (spec_ok _ _).mono ?_; rintro e w' ⟨rfl, rfl⟩)
      go_ret2
      exact ⟨tup2 (by simp [subV, h3]) (by simp [subB, h3]), rfl⟩

theorem impl_sub (a b : Int) (w : World) : Calls Tryd.prog 92 #[.int .i64 a, .int .i64 b] w fun e w' => e = .returned (.tuple #[.int .i64 (subV a b), .bool (subB a b)]) ∧ w = w' := by
  by_cases h1 : dOk a = true
  · by_cases h2 : dOk b = true
    · have b1 := dOk_yes h1
      have b2 := dOk_yes h2
      go_enter Tryd.func92, Tryd.ntmps92
      go_wp2_with (first | (go_at_call 116; refine (both_ok _ _ _).mono ?_; rintro e w' ⟨rfl, rfl⟩) | (go_at_call 117; refine (dec_checked _ _).mono ?_; rintro e w' ⟨rfl, rfl⟩))
      go_ret2
      exact ⟨tup2 (by simp [subV, h1, h2]) (by simp [subB, h1, h2]), rfl⟩
    · have h3 := no_eq h2
      clear h2
      go_enter Tryd.func92, Tryd.ntmps92
      go_wp2_with (go_at_call 116; refine (both_ok _ _ _).mono ?_; rintro e w' ⟨rfl, rfl⟩)
      go_ret2
      exact ⟨tup2 (by simp [subV, h3]) (by simp [subB, h3]), rfl⟩
  · have h3 := no_eq h1
    clear h1
    by_cases h2 : dOk b = true
    · go_enter Tryd.func92, Tryd.ntmps92
      go_wp2_with (go_at_call 116; refine (both_ok _ _ _).mono ?_; rintro e w' ⟨rfl, rfl⟩)
      go_ret2
      exact ⟨tup2 (by simp [subV, h3]) (by simp [subB, h3]), rfl⟩
    · have h4 := no_eq h2
      clear h2
      go_enter Tryd.func92, Tryd.ntmps92
      go_wp2_with (go_at_call 116; refine (both_ok _ _ _).mono ?_; rintro e w' ⟨rfl, rfl⟩)
      go_ret2
      exact ⟨tup2 (by simp [subV, h3]) (by simp [subB, h3]), rfl⟩

theorem spec_div (a b : Int) (w : World) : Calls Tryd.prog 68 #[.int .i64 a, .int .i64 b] w fun e w' => e = .returned (.tuple #[.int .i64 (divV a b), .bool (divB a b)]) ∧ w = w' := by
  by_cases h1 : dOk a = true
  · by_cases h2 : dOk b = true
    · have b1 := dOk_yes h1
      have b2 := dOk_yes h2
      by_cases h0 : (b == 0) = true
      · go_enter Tryd.func68, Tryd.ntmps68
        go_wp2_with (go_at_call 55; refine (spec_ok _ _).mono ?_; rintro e w' ⟨rfl, rfl⟩)
        go_ret2
        exact ⟨tup2 (by simp [divV, h0]) (by simp [divB, h0]), rfl⟩
      · have h4 := no_eq h0
        clear h0
        have hne : b ≠ 0 := by simpa using h4
        have hq := tdiv_bd (a * 1000000) b hne 9000000000000000000 (by omega) (by omega)
        go_enter Tryd.func68, Tryd.ntmps68
        go_wp2_with (first | (go_at_call 55; refine (spec_ok _ _).mono ?_; rintro e w' ⟨rfl, rfl⟩) | (go_at_call 96; refine (spec_made _ _).mono ?_; rintro e w' ⟨rfl, rfl⟩))
        go_ret2
        exact ⟨tup2 (by simp [divV, h1, h2, h4]) (by simp [divB, h1, h2, h4]), rfl⟩
    · have h3 := no_eq h2
      clear h2
      go_enter Tryd.func68, Tryd.ntmps68
      go_wp2_with (go_at_call 55; refine (spec_ok _ _).mono ?_; rintro e w' ⟨rfl, rfl⟩)
      go_ret2
      exact ⟨tup2 (by simp [divV, h3]) (by simp [divB, h3]), rfl⟩
  · have h3 := no_eq h1
    clear h1
    by_cases h2 : dOk b = true
    · go_enter Tryd.func68, Tryd.ntmps68
      go_wp2_with (go_at_call 55; refine (spec_ok _ _).mono ?_; rintro e w' ⟨rfl, rfl⟩)
      go_ret2
      exact ⟨tup2 (by simp [divV, h3]) (by simp [divB, h3]), rfl⟩
    · have h4 := no_eq h2
      clear h2
      go_enter Tryd.func68, Tryd.ntmps68
      go_wp2_with (go_at_call 55; refine (spec_ok _ _).mono ?_; rintro e w' ⟨rfl, rfl⟩)
      go_ret2
      exact ⟨tup2 (by simp [divV, h3]) (by simp [divB, h3]), rfl⟩

theorem impl_div (a b : Int) (w : World) : Calls Tryd.prog 94 #[.int .i64 a, .int .i64 b] w fun e w' => e = .returned (.tuple #[.int .i64 (divV a b), .bool (divB a b)]) ∧ w = w' := by
  by_cases h1 : dOk a = true
  · by_cases h2 : dOk b = true
    · have b1 := dOk_yes h1
      have b2 := dOk_yes h2
      by_cases h0 : (b == 0) = true
      · go_enter Tryd.func94, Tryd.ntmps94
        go_wp2_with (go_at_call 116; refine (both_ok _ _ _).mono ?_; rintro e w' ⟨rfl, rfl⟩)
        go_ret2
        exact ⟨tup2 (by simp [divV, h0]) (by simp [divB, h0]), rfl⟩
      · have h4 := no_eq h0
        clear h0
        have hne : b ≠ 0 := by simpa using h4
        have hq := tdiv_bd (a * 1000000) b hne 9000000000000000000 (by omega) (by omega)
        go_enter Tryd.func94, Tryd.ntmps94
        go_wp2_with (first | (go_at_call 116; refine (both_ok _ _ _).mono ?_; rintro e w' ⟨rfl, rfl⟩) | (go_at_call 117; refine (dec_checked _ _).mono ?_; rintro e w' ⟨rfl, rfl⟩))
        go_ret2
        exact ⟨tup2 (by simp [divV, h1, h2, h4]) (by simp [divB, h1, h2, h4]), rfl⟩
    · have h3 := no_eq h2
      clear h2
      go_enter Tryd.func94, Tryd.ntmps94
      go_wp2_with (go_at_call 116; refine (both_ok _ _ _).mono ?_; rintro e w' ⟨rfl, rfl⟩)
      go_ret2
      exact ⟨tup2 (by simp [divV, h3]) (by simp [divB, h3]), rfl⟩
  · have h3 := no_eq h1
    clear h1
    by_cases h2 : dOk b = true
    · go_enter Tryd.func94, Tryd.ntmps94
      go_wp2_with (go_at_call 116; refine (both_ok _ _ _).mono ?_; rintro e w' ⟨rfl, rfl⟩)
      go_ret2
      exact ⟨tup2 (by simp [divV, h3]) (by simp [divB, h3]), rfl⟩
    · have h4 := no_eq h2
      clear h2
      go_enter Tryd.func94, Tryd.ntmps94
      go_wp2_with (go_at_call 116; refine (both_ok _ _ _).mono ?_; rintro e w' ⟨rfl, rfl⟩)
      go_ret2
      exact ⟨tup2 (by simp [divV, h3]) (by simp [divB, h3]), rfl⟩

theorem spec_mod (a b : Int) (w : World) : Calls Tryd.prog 69 #[.int .i64 a, .int .i64 b] w fun e w' => e = .returned (.tuple #[.int .i64 (modV a b), .bool (modB a b)]) ∧ w = w' := by
  by_cases h1 : dOk a = true
  · by_cases h2 : dOk b = true
    · have b1 := dOk_yes h1
      have b2 := dOk_yes h2
      by_cases h0 : (b == 0) = true
      · go_enter Tryd.func69, Tryd.ntmps69
        go_wp2_with (go_at_call 55; refine (spec_ok _ _).mono ?_; rintro e w' ⟨rfl, rfl⟩)
        go_ret2
        exact ⟨tup2 (by simp [modV, h0]) (by simp [modB, h0]), rfl⟩
      · have h4 := no_eq h0
        clear h0
        have hne : b ≠ 0 := by simpa using h4
        go_enter Tryd.func69, Tryd.ntmps69
        go_wp2_with (go_at_call 55; refine (spec_ok _ _).mono ?_; rintro e w' ⟨rfl, rfl⟩)
        go_ret2
        exact ⟨tup2 (by simp [modV, h1, h2, h4]) (by simp [modB, h1, h2, h4]), rfl⟩
    · have h3 := no_eq h2
      clear h2
      go_enter Tryd.func69, Tryd.ntmps69
      go_wp2_with (go_at_call 55; refine (spec_ok _ _).mono ?_; rintro e w' ⟨rfl, rfl⟩)
      go_ret2
      exact ⟨tup2 (by simp [modV, h3]) (by simp [modB, h3]), rfl⟩
  · have h3 := no_eq h1
    clear h1
    by_cases h2 : dOk b = true
    · go_enter Tryd.func69, Tryd.ntmps69
      go_wp2_with (go_at_call 55; refine (spec_ok _ _).mono ?_; rintro e w' ⟨rfl, rfl⟩)
      go_ret2
      exact ⟨tup2 (by simp [modV, h3]) (by simp [modB, h3]), rfl⟩
    · have h4 := no_eq h2
      clear h2
      go_enter Tryd.func69, Tryd.ntmps69
      go_wp2_with (go_at_call 55; refine (spec_ok _ _).mono ?_; rintro e w' ⟨rfl, rfl⟩)
      go_ret2
      exact ⟨tup2 (by simp [modV, h3]) (by simp [modB, h3]), rfl⟩

theorem impl_mod (a b : Int) (w : World) : Calls Tryd.prog 95 #[.int .i64 a, .int .i64 b] w fun e w' => e = .returned (.tuple #[.int .i64 (modV a b), .bool (modB a b)]) ∧ w = w' := by
  by_cases h1 : dOk a = true
  · by_cases h2 : dOk b = true
    · have b1 := dOk_yes h1
      have b2 := dOk_yes h2
      by_cases h0 : (b == 0) = true
      · go_enter Tryd.func95, Tryd.ntmps95
        go_wp2_with (go_at_call 116; refine (both_ok _ _ _).mono ?_; rintro e w' ⟨rfl, rfl⟩)
        go_ret2
        exact ⟨tup2 (by simp [modV, h0]) (by simp [modB, h0]), rfl⟩
      · have h4 := no_eq h0
        clear h0
        have hne : b ≠ 0 := by simpa using h4
        go_enter Tryd.func95, Tryd.ntmps95
        go_wp2_with (go_at_call 116; refine (both_ok _ _ _).mono ?_; rintro e w' ⟨rfl, rfl⟩)
        go_ret2
        exact ⟨tup2 (by simp [modV, h1, h2, h4]) (by simp [modB, h1, h2, h4]), rfl⟩
    · have h3 := no_eq h2
      clear h2
      go_enter Tryd.func95, Tryd.ntmps95
      go_wp2_with (go_at_call 116; refine (both_ok _ _ _).mono ?_; rintro e w' ⟨rfl, rfl⟩)
      go_ret2
      exact ⟨tup2 (by simp [modV, h3]) (by simp [modB, h3]), rfl⟩
  · have h3 := no_eq h1
    clear h1
    by_cases h2 : dOk b = true
    · go_enter Tryd.func95, Tryd.ntmps95
      go_wp2_with (go_at_call 116; refine (both_ok _ _ _).mono ?_; rintro e w' ⟨rfl, rfl⟩)
      go_ret2
      exact ⟨tup2 (by simp [modV, h3]) (by simp [modB, h3]), rfl⟩
    · have h4 := no_eq h2
      clear h2
      go_enter Tryd.func95, Tryd.ntmps95
      go_wp2_with (go_at_call 116; refine (both_ok _ _ _).mono ?_; rintro e w' ⟨rfl, rfl⟩)
      go_ret2
      exact ⟨tup2 (by simp [modV, h3]) (by simp [modB, h3]), rfl⟩

theorem dec_whole (n : Int) (w : World) (h : dOk n = true) : Calls Tryd.prog 122 #[.int .i64 n] w fun e w' => e = .returned (.int .i64 (intV n)) ∧ w = w' := by
  have hb := dOk_yes h
  have ht := tmod_bd n
  have hi := tmod_le n
  go_enter Tryd.func122, Tryd.ntmps122
  go_wp2
  go_ret
  exact ⟨retI (by simp [intV, h]), rfl⟩

theorem spec_int (n : Int) (w : World) : Calls Tryd.prog 40 #[.int .i64 n] w fun e w' => e = .returned (.int .i64 (intV n)) ∧ w = w' := by
  by_cases h : dOk n = true
  · have hb := dOk_yes h
    have ht := tmod_bd n
    have hi := tmod_le n
    have hq := tdiv_tmod n
    have hr : -9000000000000 ≤ n.tdiv 1000000 * 1000000 ∧ n.tdiv 1000000 * 1000000 ≤ 9000000000000 := by omega
    have HQ := Lib.hid hq; clear hq
    go_enter Tryd.func40, Tryd.ntmps40
    go_wp2_with (go_at_call 55; refine (spec_ok _ _).mono ?_; rintro e w' ⟨rfl, rfl⟩)
    go_ret
    exact ⟨retI (by simp [intV, h, tdiv_tmod]), rfl⟩
  · have hf := no_eq h
    clear h
    go_enter Tryd.func40, Tryd.ntmps40
    go_wp2_with (go_at_call 55; refine (spec_ok _ _).mono ?_; rintro e w' ⟨rfl, rfl⟩)
    go_ret
    exact ⟨retI (by simp [intV, hf]), rfl⟩

theorem impl_int (n : Int) (w : World) : Calls Tryd.prog 103 #[.int .i64 n] w fun e w' => e = .returned (.int .i64 (intV n)) ∧ w = w' := by
  by_cases h : dOk n = true
  · have hb := dOk_yes h
    have ht := tmod_bd n
    have hi := tmod_le n
    go_enter Tryd.func103, Tryd.ntmps103
    go_wp2_with (first | (go_at_call 97; refine (impl_ok _ _).mono ?_; rintro e w' ⟨rfl, rfl⟩) | (go_at_call 122; refine (dec_whole _ _ h).mono ?_; rintro e w' ⟨rfl, rfl⟩))
    go_ret
    exact ⟨retI (rfl), rfl⟩
  · have hf := no_eq h
    clear h
    go_enter Tryd.func103, Tryd.ntmps103
    go_wp2_with (go_at_call 97; refine (impl_ok _ _).mono ?_; rintro e w' ⟨rfl, rfl⟩)
    go_ret
    exact ⟨retI (by simp [intV, hf]), rfl⟩





end Go.Proofs.YtofinndkbjcgbaaDoor.Dec
