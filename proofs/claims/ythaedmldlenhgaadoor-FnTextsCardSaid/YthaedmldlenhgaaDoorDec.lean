/-
  What each function of the first chapter, of the program and of its model, returns: a contract a function.
-/
import Derived.Test.YthaedmldlenhgaaDoorChecked
import Derived.Test.YthaedmldlenhgaaDoorDecPure
import Derived.WalkKit
import Derived.ProofKit
import Derived.OpenShut
import Derived.Handy
import Derived.Lib.Hide
import Derived.Outline
namespace Go.Proofs.YthaedmldlenhgaaDoor.Dec
open Go.ChangeShapes Go.WideShapes Go.ChangeAt Go.RowKit
open Go.Proofs.YthaedmldlenhgaaDoor.DecPure
set_option linter.unusedVariables false

theorem spec_ok (n : Int) (w : World) : Calls Tryd.prog 35 #[.int .i64 n] w fun e w' => e = .returned (.bool (dOk n)) ∧ w = w' := by
  by_cases h : dOk n = true
  · have hb := dOk_yes h
    have H := Lib.hid h; clear h
    go_enter Tryd.func35, Tryd.ntmps35
    go_wp2
    go_ret
    exact ⟨retB H.out.symm, rfl⟩
  · have hf := no_eq h
    have H := Lib.hid hf; clear hf
    rcases dOk_no h with hb | hb
    · clear h
      go_enter Tryd.func35, Tryd.ntmps35
      go_wp2
      go_ret
      exact ⟨retB H.out.symm, rfl⟩
    · clear h
      have d1 : decide (n ≤ 9000000000000) = false := by simp; omega
      have d2 : -9000000000000 ≤ n := by omega
      go_enter Tryd.func35, Tryd.ntmps35
      go_wp2
      go_ret
      exact ⟨retB H.out.symm, rfl⟩

theorem dec_ok (n : Int) (w : World) : Calls Tryd.prog 71 #[.int .i64 n] w fun e w' => e = .returned (.bool (dOk n)) ∧ w = w' := by
  by_cases h : dOk n = true
  · have hb := dOk_yes h
    have H := Lib.hid h; clear h
    go_enter Tryd.func71, Tryd.ntmps71
    go_wp2
    go_ret
    exact ⟨retB H.out.symm, rfl⟩
  · have hf := no_eq h
    have H := Lib.hid hf; clear hf
    rcases dOk_no h with hb | hb
    · clear h
      go_enter Tryd.func71, Tryd.ntmps71
      go_wp2
      go_ret
      exact ⟨retB H.out.symm, rfl⟩
    · clear h
      have d1 : decide (n ≤ 9000000000000) = false := by simp; omega
      have d2 : -9000000000000 ≤ n := by omega
      go_enter Tryd.func71, Tryd.ntmps71
      go_wp2
      go_ret
      exact ⟨retB H.out.symm, rfl⟩

theorem impl_ok (n : Int) (w : World) : Calls Tryd.prog 59 #[.int .i64 n] w fun e w' => e = .returned (.bool (dOk n)) ∧ w = w' := by
  go_enter Tryd.func59, Tryd.ntmps59
  go_wp2_with (go_at_call 71; refine (dec_ok _ _).mono ?_; rintro e w' ⟨rfl, rfl⟩)
  go_ret
  exact ⟨rfl, rfl⟩

theorem both_ok (a b : Int) (w : World) : Calls Tryd.prog 77 #[.int .i64 a, .int .i64 b] w fun e w' => e = .returned (.bool (dOk a && dOk b)) ∧ w = w' := by
  by_cases h : dOk a = true
  · go_enter Tryd.func77, Tryd.ntmps77
    go_wp2_with (go_at_call 71; refine (dec_ok _ _).mono ?_; rintro e w' ⟨rfl, rfl⟩)
    go_ret
    exact ⟨retB (by simp [h]), rfl⟩
  · have hf := no_eq h
    clear h
    go_enter Tryd.func77, Tryd.ntmps77
    go_wp2_with (go_at_call 71; refine (dec_ok _ _).mono ?_; rintro e w' ⟨rfl, rfl⟩)
    go_ret
    exact ⟨retB (by simp [hf]), rfl⟩


theorem dec_checked (n : Int) (w : World) : Calls Tryd.prog 78 #[.int .i64 n] w fun e w' => e = .returned (.tuple #[.int .i64 (mkV n), .bool (dOk n)]) ∧ w = w' := by
  by_cases h : dOk n = true
  · go_enter Tryd.func78, Tryd.ntmps78
    go_wp2_with (go_at_call 71; refine (dec_ok _ _).mono ?_; rintro e w' ⟨rfl, rfl⟩)
    go_ret2
    exact ⟨tup2 (mkV_yes h).symm h.symm, rfl⟩
  · have hf := no_eq h
    clear h
    go_enter Tryd.func78, Tryd.ntmps78
    go_wp2_with (go_at_call 71; refine (dec_ok _ _).mono ?_; rintro e w' ⟨rfl, rfl⟩)
    go_ret2
    exact ⟨tup2 (mkV_no hf).symm hf.symm, rfl⟩


theorem impl_add (a b : Int) (w : World) : Calls Tryd.prog 64 #[.int .i64 a, .int .i64 b] w fun e w' => e = .returned (.tuple #[.int .i64 (addV a b), .bool (addB a b)]) ∧ w = w' := by
  by_cases h1 : dOk a = true
  · by_cases h2 : dOk b = true
    · have b1 := dOk_yes h1
      have b2 := dOk_yes h2
      go_enter Tryd.func64, Tryd.ntmps64
      go_wp2_with (first | (go_at_call 77; refine (both_ok _ _ _).mono ?_; rintro e w' ⟨rfl, rfl⟩) | (go_at_call 78; refine (dec_checked _ _).mono ?_; rintro e w' ⟨rfl, rfl⟩))
      go_ret2
      exact ⟨tup2 (by simp [addV, h1, h2]) (by simp [addB, h1, h2]), rfl⟩
    · have h3 := no_eq h2
      clear h2
      go_enter Tryd.func64, Tryd.ntmps64
      go_wp2_with (go_at_call 77; refine (both_ok _ _ _).mono ?_; rintro e w' ⟨rfl, rfl⟩)
      go_ret2
      exact ⟨tup2 (by simp [addV, h3]) (by simp [addB, h3]), rfl⟩
  · have h3 := no_eq h1
    clear h1
    by_cases h2 : dOk b = true
    · go_enter Tryd.func64, Tryd.ntmps64
      go_wp2_with (go_at_call 77; refine (both_ok _ _ _).mono ?_; rintro e w' ⟨rfl, rfl⟩)
      go_ret2
      exact ⟨tup2 (by simp [addV, h3]) (by simp [addB, h3]), rfl⟩
    · have h4 := no_eq h2
      clear h2
      go_enter Tryd.func64, Tryd.ntmps64
      go_wp2_with (go_at_call 77; refine (both_ok _ _ _).mono ?_; rintro e w' ⟨rfl, rfl⟩)
      go_ret2
      exact ⟨tup2 (by simp [addV, h3]) (by simp [addB, h3]), rfl⟩


theorem impl_sub (a b : Int) (w : World) : Calls Tryd.prog 65 #[.int .i64 a, .int .i64 b] w fun e w' => e = .returned (.tuple #[.int .i64 (subV a b), .bool (subB a b)]) ∧ w = w' := by
  by_cases h1 : dOk a = true
  · by_cases h2 : dOk b = true
    · have b1 := dOk_yes h1
      have b2 := dOk_yes h2
      go_enter Tryd.func65, Tryd.ntmps65
      go_wp2_with (first | (go_at_call 77; refine (both_ok _ _ _).mono ?_; rintro e w' ⟨rfl, rfl⟩) | (go_at_call 78; refine (dec_checked _ _).mono ?_; rintro e w' ⟨rfl, rfl⟩))
      go_ret2
      exact ⟨tup2 (by simp [subV, h1, h2]) (by simp [subB, h1, h2]), rfl⟩
    · have h3 := no_eq h2
      clear h2
      go_enter Tryd.func65, Tryd.ntmps65
      go_wp2_with (go_at_call 77; refine (both_ok _ _ _).mono ?_; rintro e w' ⟨rfl, rfl⟩)
      go_ret2
      exact ⟨tup2 (by simp [subV, h3]) (by simp [subB, h3]), rfl⟩
  · have h3 := no_eq h1
    clear h1
    by_cases h2 : dOk b = true
    · go_enter Tryd.func65, Tryd.ntmps65
      go_wp2_with (go_at_call 77; refine (both_ok _ _ _).mono ?_; rintro e w' ⟨rfl, rfl⟩)
      go_ret2
      exact ⟨tup2 (by simp [subV, h3]) (by simp [subB, h3]), rfl⟩
    · have h4 := no_eq h2
      clear h2
      go_enter Tryd.func65, Tryd.ntmps65
      go_wp2_with (go_at_call 77; refine (both_ok _ _ _).mono ?_; rintro e w' ⟨rfl, rfl⟩)
      go_ret2
      exact ⟨tup2 (by simp [subV, h3]) (by simp [subB, h3]), rfl⟩


theorem impl_div (a b : Int) (w : World) : Calls Tryd.prog 67 #[.int .i64 a, .int .i64 b] w fun e w' => e = .returned (.tuple #[.int .i64 (divV a b), .bool (divB a b)]) ∧ w = w' := by
  by_cases h1 : dOk a = true
  · by_cases h2 : dOk b = true
    · have b1 := dOk_yes h1
      have b2 := dOk_yes h2
      by_cases h0 : (b == 0) = true
      · go_enter Tryd.func67, Tryd.ntmps67
        go_wp2_with (go_at_call 77; refine (both_ok _ _ _).mono ?_; rintro e w' ⟨rfl, rfl⟩)
        go_ret2
        exact ⟨tup2 (by simp [divV, h0]) (by simp [divB, h0]), rfl⟩
      · have h4 := no_eq h0
        clear h0
        have hne : b ≠ 0 := by simpa using h4
        have hq := tdiv_bd (a * 1000000) b hne 9000000000000000000 (by omega) (by omega)
        go_enter Tryd.func67, Tryd.ntmps67
        go_wp2_with (first | (go_at_call 77; refine (both_ok _ _ _).mono ?_; rintro e w' ⟨rfl, rfl⟩) | (go_at_call 78; refine (dec_checked _ _).mono ?_; rintro e w' ⟨rfl, rfl⟩))
        go_ret2
        exact ⟨tup2 (by simp [divV, h1, h2, h4]) (by simp [divB, h1, h2, h4]), rfl⟩
    · have h3 := no_eq h2
      clear h2
      go_enter Tryd.func67, Tryd.ntmps67
      go_wp2_with (go_at_call 77; refine (both_ok _ _ _).mono ?_; rintro e w' ⟨rfl, rfl⟩)
      go_ret2
      exact ⟨tup2 (by simp [divV, h3]) (by simp [divB, h3]), rfl⟩
  · have h3 := no_eq h1
    clear h1
    by_cases h2 : dOk b = true
    · go_enter Tryd.func67, Tryd.ntmps67
      go_wp2_with (go_at_call 77; refine (both_ok _ _ _).mono ?_; rintro e w' ⟨rfl, rfl⟩)
      go_ret2
      exact ⟨tup2 (by simp [divV, h3]) (by simp [divB, h3]), rfl⟩
    · have h4 := no_eq h2
      clear h2
      go_enter Tryd.func67, Tryd.ntmps67
      go_wp2_with (go_at_call 77; refine (both_ok _ _ _).mono ?_; rintro e w' ⟨rfl, rfl⟩)
      go_ret2
      exact ⟨tup2 (by simp [divV, h3]) (by simp [divB, h3]), rfl⟩


theorem impl_mod (a b : Int) (w : World) : Calls Tryd.prog 68 #[.int .i64 a, .int .i64 b] w fun e w' => e = .returned (.tuple #[.int .i64 (modV a b), .bool (modB a b)]) ∧ w = w' := by
  by_cases h1 : dOk a = true
  · by_cases h2 : dOk b = true
    · have b1 := dOk_yes h1
      have b2 := dOk_yes h2
      by_cases h0 : (b == 0) = true
      · go_enter Tryd.func68, Tryd.ntmps68
        go_wp2_with (go_at_call 77; refine (both_ok _ _ _).mono ?_; rintro e w' ⟨rfl, rfl⟩)
        go_ret2
        exact ⟨tup2 (by simp [modV, h0]) (by simp [modB, h0]), rfl⟩
      · have h4 := no_eq h0
        clear h0
        have hne : b ≠ 0 := by simpa using h4
        go_enter Tryd.func68, Tryd.ntmps68
        go_wp2_with (go_at_call 77; refine (both_ok _ _ _).mono ?_; rintro e w' ⟨rfl, rfl⟩)
        go_ret2
        exact ⟨tup2 (by simp [modV, h1, h2, h4]) (by simp [modB, h1, h2, h4]), rfl⟩
    · have h3 := no_eq h2
      clear h2
      go_enter Tryd.func68, Tryd.ntmps68
      go_wp2_with (go_at_call 77; refine (both_ok _ _ _).mono ?_; rintro e w' ⟨rfl, rfl⟩)
      go_ret2
      exact ⟨tup2 (by simp [modV, h3]) (by simp [modB, h3]), rfl⟩
  · have h3 := no_eq h1
    clear h1
    by_cases h2 : dOk b = true
    · go_enter Tryd.func68, Tryd.ntmps68
      go_wp2_with (go_at_call 77; refine (both_ok _ _ _).mono ?_; rintro e w' ⟨rfl, rfl⟩)
      go_ret2
      exact ⟨tup2 (by simp [modV, h3]) (by simp [modB, h3]), rfl⟩
    · have h4 := no_eq h2
      clear h2
      go_enter Tryd.func68, Tryd.ntmps68
      go_wp2_with (go_at_call 77; refine (both_ok _ _ _).mono ?_; rintro e w' ⟨rfl, rfl⟩)
      go_ret2
      exact ⟨tup2 (by simp [modV, h3]) (by simp [modB, h3]), rfl⟩








end Go.Proofs.YthaedmldlenhgaaDoor.Dec
