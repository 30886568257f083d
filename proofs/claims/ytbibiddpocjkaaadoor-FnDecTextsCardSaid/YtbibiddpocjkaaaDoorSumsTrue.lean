/-
  The check that decimals are alive, at its constants: it returns true.
-/
import Derived.Test.YtbibiddpocjkaaaDoorText
import Derived.Test.YtbibiddpocjkaaaDoorDiv64
import Derived.Test.YtbibiddpocjkaaaDoorReadLaws
namespace Go.Proofs.YtbibiddpocjkaaaDoor.Dec
open Go.ChangeShapes Go.WideShapes Go.ChangeAt Go.RowKit
open Go.Proofs.YtbibiddpocjkaaaDoor.DecPure Go.Proofs.YtbibiddpocjkaaaDoor.TextPure Go.Proofs.YtbibiddpocjkaaaDoor.ReadPure
set_option linter.unusedVariables false

theorem sums_mul (w : World) : Calls Tryd.prog 22 #[.int .i64 1500000, .int .i64 2000000] w fun e w' => e = .returned (.tuple #[.int .i64 3000000, .bool true]) ∧ ∃ n, w' = w.drewN n := by
  have h := impl_mul 1500000 2000000 w
  rw [show mulV 1500000 2000000 = 3000000 from by decide +kernel, show mulB 1500000 2000000 = true from by decide +kernel] at h
  exact h

theorem sums_div (w : World) : Calls Tryd.prog 30 #[.int .i64 1000000, .int .i64 4000000] w fun e w' => e = .returned (.tuple #[.int .i64 250000, .bool true]) ∧ w = w' := by
  have h := impl_div 1000000 4000000 w
  rw [show divV 1000000 4000000 = 250000 from by decide +kernel, show divB 1000000 4000000 = true from by decide +kernel] at h
  exact h

theorem sums_read (w : World) : Calls Tryd.prog 13 #[.string ⟨#[32, 45, 50, 46, 53, 120]⟩] w fun e w' => e = .returned (.tuple #[.int .i64 (-2500000), .int .i64 5]) ∧ w = w' := by
  have h := impl_readDec ⟨#[32, 45, 50, 46, 53, 120]⟩ (by decide) w
  rw [show rdN ⟨#[32, 45, 50, 46, 53, 120]⟩ = -2500000 from by decide +kernel, show rdK ⟨#[32, 45, 50, 46, 53, 120]⟩ = 5 from by decide +kernel] at h
  exact h

theorem sums_looks (w : World) : Calls Tryd.prog 14 #[.string ⟨#[51, 32]⟩] w fun e w' => e = .returned (.bool true) ∧ w = w' := by
  have h := impl_looks ⟨#[51, 32]⟩ (by decide) w
  rw [show looksB ⟨#[51, 32]⟩ = true from by decide +kernel] at h
  exact h

theorem fmt_two (w : World) : Calls Tryd.prog 53 #[.int .u64 2, .int .i64 10] w fun e w' => e = .returned (.string ⟨#[50]⟩) ∧ w = w' := by
  go_enter Tryd.func53, Tryd.ntmps53
  go_wp2
  go_ret
  exact ⟨by as_aux_lemma => kernel_rfl, rfl⟩

theorem frac_const (w : World) : Calls Tryd.prog 55 #[.int .i64 (-2500000)] w fun e w' => e = .returned (.string ⟨#[46, 53]⟩) ∧ Below w.heap.size w w' := by
  have h := frac_text (-2500000) (by decide) w
  rw [show strOfNums (fracL (-2500000)) = ⟨#[46, 53]⟩ from by decide +kernel] at h
  exact h

theorem size_const (w : World) : Calls Tryd.prog 54 #[.int .i64 (-2500000)] w fun e w' => e = .returned (.int .u64 2500000) ∧ w = w' := by
  have h := dec_size (-2500000) (by decide) w
  rw [show absV (-2500000) = 2500000 from by decide] at h
  exact h

theorem text_const (w : World) : Calls Tryd.prog 35 #[.int .i64 (-2500000)] w fun e w' => e = .returned (.string ⟨#[45, 50, 46, 53]⟩) ∧ Below w.heap.size w w' := by
  go_enter Tryd.func35, Tryd.ntmps35
  go_wp2_with (first | (go_at_call 54; refine (size_const _).mono ?_; rintro e w' ⟨rfl, rfl⟩) | (go_at_call 53; refine (fmt_two _).mono ?_; rintro e w' ⟨rfl, rfl⟩) | (go_at_call 55; refine (frac_const _).mono ?_; rintro e w' ⟨rfl, hB⟩))
  go_ret
  exact ⟨by as_aux_lemma => kernel_rfl, hB⟩

theorem dectext_const (w : World) : Calls Tryd.prog 10 #[.int .i64 (-2500000)] w fun e w' => e = .returned (.string ⟨#[45, 50, 46, 53]⟩) ∧ Below w.heap.size w w' := by
  have hk : dOk (-2500000) = true := by decide
  go_enter Tryd.func10, Tryd.ntmps10
  go_wp2_with (first | (go_at_call 11; refine (impl_ok _ _).mono ?_; rintro e w' ⟨rfl, rfl⟩) | (go_at_call 35; refine (text_const _).mono ?_; rintro e w' ⟨rfl, hB⟩))
  go_ret
  exact ⟨rfl, hB⟩

theorem sums_true (w : World) : Calls Tryd.prog 12 #[] w fun e w' => e = .returned (.bool true) ∧ Below w.heap.size w w' := by
  go_enter Tryd.func12, Tryd.ntmps12
  go_wp2_with (first | (go_at_call 22; refine (sums_mul _).mono ?_; rintro e w' ⟨rfl, n, rfl⟩) | (go_at_call 30; refine (sums_div _).mono ?_; rintro e w' ⟨rfl, rfl⟩) | (go_at_call 13; refine (sums_read _).mono ?_; rintro e w' ⟨rfl, rfl⟩) | (go_at_call 14; refine (sums_looks _).mono ?_; rintro e w' ⟨rfl, rfl⟩) | (go_at_call 10; refine (dectext_const _).mono ?_; rintro e w' ⟨rfl, hB⟩))
  go_ret
  exact ⟨rfl, (show Below w.heap.size w (w.drewN n) from ⟨rfl, rfl, rfl, Nat.le_refl _, fun _ _ => rfl⟩).trans hB⟩

end Go.Proofs.YtbibiddpocjkaaaDoor.Dec
