/-
  What DecMul of the program and of its model returns, and the library's two functions on numbers of 128 bits under it.
-/
import Derived.Test.YthaedmldlenhgaaGreatDoorDec
import Derived.Test.YthaedmldlenhgaaGreatDoorMulPure
import Derived.Test.YthaedmldlenhgaaGreatDoorShelf
import Derived.RegionTactic
import Derived.Deep.QuietTactic
import Derived.BigQuiet
import Derived.Outline
namespace Go.Proofs.YthaedmldlenhgaaGreatDoor.Dec
open Go.ChangeShapes Go.WideShapes Go.ChangeAt Go.RowKit
open Go.Proofs.YthaedmldlenhgaaGreatDoor.DecPure
set_option linter.unusedVariables false

theorem mul64_nat (x y : Nat) (hx : x < 18446744073709551616) (hy : y < 18446744073709551616) (w : World) :
    Calls Tryz.prog 144 #[.int .u64 x, .int .u64 y] w fun e w' => e = .returned (.tuple #[.int .u64 (hiV x y), .int .u64 (loV x y)]) ∧ w = w' :=
  (Tryz.bits_Mul64 x y hx hy w).mono fun e w' ⟨he, hw⟩ => ⟨he.trans (tupU (castHi x y) (castLo x y)), hw.symm⟩

theorem mul64 (x y : Int) (hx : 0 ≤ x) (hy : 0 ≤ y) (h1 : x ≤ 9000000000000) (h2 : y ≤ 9000000000000) (w : World) :
    Calls Tryz.prog 144 #[.int .u64 x, .int .u64 y] w fun e w' => e = .returned (.tuple #[.int .u64 (hiV x y), .int .u64 (loV x y)]) ∧ w = w' := by
  obtain ⟨a, rfl⟩ := Int.eq_ofNat_of_zero_le hx
  obtain ⟨b, rfl⟩ := Int.eq_ofNat_of_zero_le hy
  exact mul64_nat a b (by omega) (by omega) w

theorem dec_size (n : Int) (h : dOk n = true) (w : World) : Calls Tryz.prog 187 #[.int .i64 n] w fun e w' => e = .returned (.int .u64 (absV n)) ∧ w = w' := by
  have hb := dOk_yes h
  clear h
  by_cases h0 : n < 0
  · have e := absV_neg h0
    have E := Lib.hid e; clear e
    go_enter Tryz.func187, Tryz.ntmps187
    go_wp2
    go_ret
    exact ⟨retI E.out.symm, rfl⟩
  · have e := absV_pos (show 0 ≤ n by omega)
    have E := Lib.hid e; clear e
    go_enter Tryz.func187, Tryz.ntmps187
    go_wp2
    go_ret
    exact ⟨retI E.out.symm, rfl⟩

theorem spec_abs (n : Int) (h : dOk n = true) (w : World) : Calls Tryz.prog 68 #[.int .i64 n] w fun e w' => e = .returned (.int .i64 (absV n)) ∧ w = w' := by
  have hb := dOk_yes h
  clear h
  by_cases h0 : n < 0
  · have e := absV_neg h0
    have E := Lib.hid e; clear e
    go_enter Tryz.func68, Tryz.ntmps68
    go_wp2
    go_ret
    exact ⟨retI E.out.symm, rfl⟩
  · have e := absV_pos (show 0 ≤ n by omega)
    have E := Lib.hid e; clear e
    go_enter Tryz.func68, Tryz.ntmps68
    go_wp2
    go_ret
    exact ⟨retI E.out.symm, rfl⟩







end Go.Proofs.YthaedmldlenhgaaGreatDoor.Dec
