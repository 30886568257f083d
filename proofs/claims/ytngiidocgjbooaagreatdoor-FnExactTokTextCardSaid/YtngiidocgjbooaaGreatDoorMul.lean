/-
  What DecMul of the program and of its model returns, and the library's two functions on numbers of 128 bits under it.
-/
import Derived.Test.YtngiidocgjbooaaGreatDoorDec
import Derived.Test.YtngiidocgjbooaaGreatDoorMulPure
import Derived.Test.YtngiidocgjbooaaGreatDoorShelf
import Derived.RegionTactic
import Derived.Deep.QuietTactic
import Derived.BigQuiet
import Derived.Outline
namespace Go.Proofs.YtngiidocgjbooaaGreatDoor.Dec
open Go.ChangeShapes Go.WideShapes Go.ChangeAt Go.RowKit
open Go.Proofs.YtngiidocgjbooaaGreatDoor.DecPure
set_option linter.unusedVariables false



theorem dec_size (n : Int) (h : dOk n = true) (w : World) : Calls Tryz.prog 129 #[.int .i64 n] w fun e w' => e = .returned (.int .u64 (absV n)) ∧ w = w' := by
  have hb := dOk_yes h
  clear h
  by_cases h0 : n < 0
  · have e := absV_neg h0
    have E := Lib.hid e; clear e
    go_enter Tryz.func129, Tryz.ntmps129
    go_wp2
    go_ret
    exact ⟨retI E.out.symm, rfl⟩
  · have e := absV_pos (show 0 ≤ n by omega)
    have E := Lib.hid e; clear e
    go_enter Tryz.func129, Tryz.ntmps129
    go_wp2
    go_ret
    exact ⟨retI E.out.symm, rfl⟩

theorem spec_abs (n : Int) (h : dOk n = true) (w : World) : Calls Tryz.prog 110 #[.int .i64 n] w fun e w' => e = .returned (.int .i64 (absV n)) ∧ w = w' := by
  have hb := dOk_yes h
  clear h
  by_cases h0 : n < 0
  · have e := absV_neg h0
    have E := Lib.hid e; clear e
    go_enter Tryz.func110, Tryz.ntmps110
    go_wp2
    go_ret
    exact ⟨retI E.out.symm, rfl⟩
  · have e := absV_pos (show 0 ≤ n by omega)
    have E := Lib.hid e; clear e
    go_enter Tryz.func110, Tryz.ntmps110
    go_wp2
    go_ret
    exact ⟨retI E.out.symm, rfl⟩







end Go.Proofs.YtngiidocgjbooaaGreatDoor.Dec
