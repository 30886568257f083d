/-
  What the functions under ReadDec and LooksNum return, of the program and of its model: a contract a function.
-/
import Derived.Test.YtnkldjijjpcmhaaDec
import Derived.Test.YtnkldjijjpcmhaaReadPure
import Derived.LoopTactic
import Derived.Outline
namespace Go.Proofs.Ytnkldjijjpcmhaa.Dec
open Go.ChangeShapes Go.WideShapes Go.ChangeAt Go.RowKit Go.PlainAid
open Go.Proofs.Ytnkldjijjpcmhaa.DecPure Go.Proofs.Ytnkldjijjpcmhaa.ReadPure
set_option linter.unusedVariables false

theorem spec_white (b : Int) (h0 : 0 ≤ b) (h1 : b ≤ 255) (w : World) : Calls Try.prog 44 #[.int .u8 b] w fun e w' => e = .returned (.bool (spB b)) ∧ w = w' := by
  by_cases h2 : b = 32
  · subst h2
    go_enter Try.func44, Try.ntmps44
    go_wp2
    go_ret
    exact ⟨rfl, rfl⟩
  · by_cases h3 : b = 9
    · subst h3
      go_enter Try.func44, Try.ntmps44
      go_wp2
      go_ret
      exact ⟨rfl, rfl⟩
    · have e1 : (b == 32) = false := by simpa using h2
      have e2 : (b == 9) = false := by simpa using h3
      have e3 : spB b = (b == 10) := by simp [spB, e1, e2]
      have E := Lib.hid e3; clear e3 h2 h3
      go_enter Try.func44, Try.ntmps44
      go_wp2
      go_ret
      exact ⟨retB E.out.symm, rfl⟩

theorem impl_space (b : Int) (h0 : 0 ≤ b) (h1 : b ≤ 255) (w : World) : Calls Try.prog 59 #[.int .u8 b] w fun e w' => e = .returned (.bool (spB b)) ∧ w = w' := by
  by_cases h2 : b = 32
  · subst h2
    go_enter Try.func59, Try.ntmps59
    go_wp2
    go_ret
    exact ⟨rfl, rfl⟩
  · by_cases h3 : b = 9
    · subst h3
      go_enter Try.func59, Try.ntmps59
      go_wp2
      go_ret
      exact ⟨rfl, rfl⟩
    · have e1 : (b == 32) = false := by simpa using h2
      have e2 : (b == 9) = false := by simpa using h3
      have e3 : spB b = (b == 10) := by simp [spB, e1, e2]
      have E := Lib.hid e3; clear e3 h2 h3
      go_enter Try.func59, Try.ntmps59
      go_wp2
      go_ret
      exact ⟨retB E.out.symm, rfl⟩



set_option maxHeartbeats 400000 in
theorem spec_skip (s : ByteArray) (a : Nat) (hs : s.size ≤ maxLen) (ha : a ≤ s.size) (w : World) : Calls Try.prog 43 #[.string s, .int .i64 a] w fun e w' => e = .returned (.int .i64 (endOf spB s a)) ∧ w = w' := by
  unfold maxLen at hs
  have hb := get_bt s
  go_enter Try.func43, Try.ntmps43
  go_wp2
  go_loop [1] (fun i => ∃ k : Nat, k ≤ s.size ∧ endOf spB s k = endOf spB s a ∧ i = .int .i64 k) (fun i => s.size - (intOf i).toNat)
  case atStart => exact ⟨a, ha, rfl, rfl⟩
  case round =>
    obtain ⟨k, hk, he, rfl⟩ := hrel
    have HE := Lib.hid he; clear he
    have b0 := bt_nonneg s k
    have b1 := bt_le s k
    by_cases hlt : k < s.size
    · by_cases hp : spB (bt s k) = true
      · have hst := endOf_step hlt hp
        have HS := Lib.hid hst; clear hst
        go_wp2_with (go_at_call 44; refine (spec_white _ (by omega) (by omega) _).mono ?_; rintro e w' ⟨rfl, rfl⟩)
        go_round
        case rel => exact ⟨k + 1, by omega, by rw [← HS.out]; exact HE.out, by go_num⟩
        case measure => simp [intOf]; omega
      · have hst := endOf_stop (p := spB) (s := s) (a := k) (fun h => hp h.2)
        have HS := Lib.hid hst; clear hst
        have hf := no_eq hp
        clear hp
        go_wp2_with (go_at_call 44; refine (spec_white _ (by omega) (by omega) _).mono ?_; rintro e w' ⟨rfl, rfl⟩)
        go_ret
        exact ⟨retI (by rw [← HE.out, HS.out]), rfl⟩
    · have hst := endOf_stop (p := spB) (s := s) (a := k) (fun h => hlt h.1)
      have HS := Lib.hid hst; clear hst
      have hd : decide (k < s.size) = false := by simpa using hlt
      go_wp2_with (go_at_call 44; refine (spec_white _ (by omega) (by omega) _).mono ?_; rintro e w' ⟨rfl, rfl⟩)
      go_ret
      exact ⟨retI (by rw [← HE.out, HS.out]), rfl⟩






theorem spec_skip0 (s : ByteArray) (hs : s.size ≤ maxLen) (w : World) : Calls Try.prog 43 #[.string s, .int .i64 0] w fun e w' => e = .returned (.int .i64 (rA0 s)) ∧ w = w' :=
  spec_skip s 0 hs (Nat.zero_le _) w





end Go.Proofs.Ytnkldjijjpcmhaa.Dec
