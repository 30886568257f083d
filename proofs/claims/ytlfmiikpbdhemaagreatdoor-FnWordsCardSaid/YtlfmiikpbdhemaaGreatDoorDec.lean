/-
  What each function of the first chapter, of the program and of its model, returns: a contract a function.
-/
import Derived.Test.YtlfmiikpbdhemaaGreatDoorChecked
import Derived.Test.YtlfmiikpbdhemaaGreatDoorPures
import Derived.WalkKit
import Derived.ProofKit
import Derived.OpenShut
import Derived.Handy
import Derived.Lib.Hide
import Derived.Outline
namespace Go.Proofs.YtlfmiikpbdhemaaGreatDoor.Dec
open Go.ChangeShapes Go.WideShapes Go.ChangeAt Go.RowKit
open Go.Proofs.YtlfmiikpbdhemaaGreatDoor.DecPure
set_option linter.unusedVariables false


theorem dec_ok (n : Int) (w : World) : Calls Tryz.prog 64 #[.int .i64 n] w fun e w' => e = .returned (.bool (dOk n)) ∧ w = w' := by
  by_cases h : dOk n = true
  · have hb := dOk_yes h
    have H := Lib.hid h; clear h
    go_enter Tryz.func64, Tryz.ntmps64
    go_wp2
    go_ret
    exact ⟨retB H.out.symm, rfl⟩
  · have hf := no_eq h
    have H := Lib.hid hf; clear hf
    rcases dOk_no h with hb | hb
    · clear h
      go_enter Tryz.func64, Tryz.ntmps64
      go_wp2
      go_ret
      exact ⟨retB H.out.symm, rfl⟩
    · clear h
      have d1 : decide (n ≤ 9000000000000) = false := by simp; omega
      have d2 : -9000000000000 ≤ n := by omega
      go_enter Tryz.func64, Tryz.ntmps64
      go_wp2
      go_ret
      exact ⟨retB H.out.symm, rfl⟩

theorem impl_ok (n : Int) (w : World) : Calls Tryz.prog 50 #[.int .i64 n] w fun e w' => e = .returned (.bool (dOk n)) ∧ w = w' := by
  go_enter Tryz.func50, Tryz.ntmps50
  go_wp2_with (go_at_call 64; refine (dec_ok _ _).mono ?_; rintro e w' ⟨rfl, rfl⟩)
  go_ret
  exact ⟨rfl, rfl⟩



















end Go.Proofs.YtlfmiikpbdhemaaGreatDoor.Dec
