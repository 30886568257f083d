/-
  What DecMul of the program and of its model returns, and the library's two functions on numbers of 128 bits under it.
-/
import Derived.Test.YtlfmiikpbdhemaaGreatDoorDec
import Derived.Test.YtlfmiikpbdhemaaGreatDoorPures
import Derived.Test.YtlfmiikpbdhemaaGreatDoorShelf
import Derived.RegionTactic
import Derived.Deep.QuietTactic
import Derived.BigQuiet
import Derived.Outline
namespace Go.Proofs.YtlfmiikpbdhemaaGreatDoor.Dec
open Go.ChangeShapes Go.WideShapes Go.ChangeAt Go.RowKit
open Go.Proofs.YtlfmiikpbdhemaaGreatDoor.DecPure
set_option linter.unusedVariables false



theorem dec_size (n : Int) (h : dOk n = true) (w : World) : Calls Tryz.prog 66 #[.int .i64 n] w fun e w' => e = .returned (.int .u64 (absV n)) ∧ w = w' := by
  have hb := dOk_yes h
  clear h
  by_cases h0 : n < 0
  · have e := absV_neg h0
    have E := Lib.hid e; clear e
    go_enter Tryz.func66, Tryz.ntmps66
    go_wp2
    go_ret
    exact ⟨retI E.out.symm, rfl⟩
  · have e := absV_pos (show 0 ≤ n by omega)
    have E := Lib.hid e; clear e
    go_enter Tryz.func66, Tryz.ntmps66
    go_wp2
    go_ret
    exact ⟨retI E.out.symm, rfl⟩








end Go.Proofs.YtlfmiikpbdhemaaGreatDoor.Dec
