/-
  What each function of the first chapter, of the program and of its model, returns: a contract a function.
-/
import Derived.Test.YthaedmldlenhgaaGreatDoorChecked
import Derived.Test.YthaedmldlenhgaaGreatDoorDecPure
import Derived.WalkKit
import Derived.ProofKit
import Derived.OpenShut
import Derived.Handy
import Derived.Lib.Hide
import Derived.Outline
namespace Go.Proofs.YthaedmldlenhgaaGreatDoor.Dec
open Go.ChangeShapes Go.WideShapes Go.ChangeAt Go.RowKit
open Go.Proofs.YthaedmldlenhgaaGreatDoor.DecPure
set_option linter.unusedVariables false

theorem spec_ok (n : Int) (w : World) : Calls Tryz.prog 63 #[.int .i64 n] w fun e w' => e = .returned (.bool (dOk n)) ∧ w = w' := by
  by_cases h : dOk n = true
  · have hb := dOk_yes h
    have H := Lib.hid h; clear h
    go_enter Tryz.func63, Tryz.ntmps63
    go_wp2
    go_ret
    exact ⟨retB H.out.symm, rfl⟩
  · have hf := no_eq h
    have H := Lib.hid hf; clear hf
    rcases dOk_no h with hb | hb
    · clear h
      go_enter Tryz.func63, Tryz.ntmps63
      go_wp2
      go_ret
      exact ⟨retB H.out.symm, rfl⟩
    · clear h
      have d1 : decide (n ≤ 9000000000000) = false := by simp; omega
      have d2 : -9000000000000 ≤ n := by omega
      go_enter Tryz.func63, Tryz.ntmps63
      go_wp2
      go_ret
      exact ⟨retB H.out.symm, rfl⟩

theorem dec_ok (n : Int) (w : World) : Calls Tryz.prog 184 #[.int .i64 n] w fun e w' => e = .returned (.bool (dOk n)) ∧ w = w' := by
  by_cases h : dOk n = true
  · have hb := dOk_yes h
    have H := Lib.hid h; clear h
    go_enter Tryz.func184, Tryz.ntmps184
    go_wp2
    go_ret
    exact ⟨retB H.out.symm, rfl⟩
  · have hf := no_eq h
    have H := Lib.hid hf; clear hf
    rcases dOk_no h with hb | hb
    · clear h
      go_enter Tryz.func184, Tryz.ntmps184
      go_wp2
      go_ret
      exact ⟨retB H.out.symm, rfl⟩
    · clear h
      have d1 : decide (n ≤ 9000000000000) = false := by simp; omega
      have d2 : -9000000000000 ≤ n := by omega
      go_enter Tryz.func184, Tryz.ntmps184
      go_wp2
      go_ret
      exact ⟨retB H.out.symm, rfl⟩

theorem impl_ok (n : Int) (w : World) : Calls Tryz.prog 137 #[.int .i64 n] w fun e w' => e = .returned (.bool (dOk n)) ∧ w = w' := by
  go_enter Tryz.func137, Tryz.ntmps137
  go_wp2_with (go_at_call 184; refine (dec_ok _ _).mono ?_; rintro e w' ⟨rfl, rfl⟩)
  go_ret
  exact ⟨rfl, rfl⟩












theorem dec_whole (n : Int) (w : World) (h : dOk n = true) : Calls Tryz.prog 140 #[.int .i64 n] w fun e w' => e = .returned (.int .i64 (intV n)) ∧ w = w' := by
  have hb := dOk_yes h
  have ht := tmod_bd n
  have hi := tmod_le n
  go_enter Tryz.func140, Tryz.ntmps140
  go_wp2
  go_ret
  exact ⟨retI (by simp [intV, h]), rfl⟩

theorem spec_int (n : Int) (w : World) : Calls Tryz.prog 36 #[.int .i64 n] w fun e w' => e = .returned (.int .i64 (intV n)) ∧ w = w' := by
  by_cases h : dOk n = true
  · have hb := dOk_yes h
    have ht := tmod_bd n
    have hi := tmod_le n
    have hq := tdiv_tmod n
    have hr : -9000000000000 ≤ n.tdiv 1000000 * 1000000 ∧ n.tdiv 1000000 * 1000000 ≤ 9000000000000 := by omega
    have HQ := Lib.hid hq; clear hq
    go_enter Tryz.func36, Tryz.ntmps36
    go_wp2_with (go_at_call 63; refine (spec_ok _ _).mono ?_; rintro e w' ⟨rfl, rfl⟩)
    go_ret
    exact ⟨retI (by simp [intV, h, tdiv_tmod]), rfl⟩
  · have hf := no_eq h
    clear h
    go_enter Tryz.func36, Tryz.ntmps36
    go_wp2_with (go_at_call 63; refine (spec_ok _ _).mono ?_; rintro e w' ⟨rfl, rfl⟩)
    go_ret
    exact ⟨retI (by simp [intV, hf]), rfl⟩

theorem impl_int (n : Int) (w : World) : Calls Tryz.prog 95 #[.int .i64 n] w fun e w' => e = .returned (.int .i64 (intV n)) ∧ w = w' := by
  by_cases h : dOk n = true
  · have hb := dOk_yes h
    have ht := tmod_bd n
    have hi := tmod_le n
    go_enter Tryz.func95, Tryz.ntmps95
    go_wp2_with (first | (go_at_call 137; refine (impl_ok _ _).mono ?_; rintro e w' ⟨rfl, rfl⟩) | (go_at_call 140; refine (dec_whole _ _ h).mono ?_; rintro e w' ⟨rfl, rfl⟩))
    go_ret
    exact ⟨retI (rfl), rfl⟩
  · have hf := no_eq h
    clear h
    go_enter Tryz.func95, Tryz.ntmps95
    go_wp2_with (go_at_call 137; refine (impl_ok _ _).mono ?_; rintro e w' ⟨rfl, rfl⟩)
    go_ret
    exact ⟨retI (by simp [intV, hf]), rfl⟩





end Go.Proofs.YthaedmldlenhgaaGreatDoor.Dec
