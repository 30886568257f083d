/-
  NameOk of the model and of the program: a letter, up to forty letters and digits, no keyword.
-/
import Derived.Test.YtlfmiikpbdhemaaGreatDoorWords
namespace Go.Proofs.YtlfmiikpbdhemaaGreatDoor.Lex
open Go.ChangeShapes Go.WideShapes Go.ChangeAt Go.RowKit Go.PlainAid Go.Maps
open Go.Proofs.YtlfmiikpbdhemaaGreatDoor.Dec
open Go.Proofs.YtlfmiikpbdhemaaGreatDoor.DecPure Go.Proofs.YtlfmiikpbdhemaaGreatDoor.ReadPure Go.Proofs.YtlfmiikpbdhemaaGreatDoor.LexPure
set_option linter.unusedVariables false

theorem nmOk_no {s : ByteArray} (h : s.size < 1 ∨ 40 < s.size) : nmOk s = false := by
  unfold nmOk
  have : decide (1 ≤ s.size ∧ s.size ≤ 40) = false := by simp; omega
  rw [this]; rfl
theorem nmOk_in {s : ByteArray} (h : 1 ≤ s.size ∧ s.size ≤ 40) : nmOk s = (letB (bt s 0) && (endOf innB s 0 == s.size) && !isWd s) := by
  unfold nmOk
  rw [decide_eq_true h, Bool.true_and]


set_option maxHeartbeats 1000000 in
theorem impl_nameEnd (s : ByteArray) (a : Nat) (hs : s.size ≤ maxLen) (ha : a ≤ s.size) (w : World) : Calls Tryz.prog 49 #[.string s, .int .i64 a] w fun e w' => e = .returned (.int .i64 (endOf innB s a)) ∧ w = w' := by
  unfold maxLen at hs
  have hb := get_bt s
  go_enter Tryz.func49, Tryz.ntmps49
  go_wp2_with fail
  go_loop [1] (fun i => ∃ k : Nat, k ≤ s.size ∧ Hid (endOf innB s k = endOf innB s a) ∧ i = .int .i64 k) (fun i => s.size - (intOf i).toNat)
  case atStart => exact ⟨a, ha, rfl, rfl⟩
  case round =>
    obtain ⟨k, hk2, HE, rfl⟩ := hrel
    have c0 := bt_nonneg s k
    have c1 := bt_le s k
    by_cases hlt : k < s.size
    · cases hl : letB (bt s k) with
      | true =>
        have hi : innB (bt s k) = true := by unfold innB; rw [hl]; rfl
        have hst := endOf_step hlt hi
        have HS := Lib.hid hst; clear hst
        go_wp2_with fail
        refine (impl_letter _ (by omega) (by omega) _).mono ?_; rw [hl]; rintro e w' ⟨rfl, rfl⟩
        go_wp2_with fail
        go_round
        case rel => exact ⟨k + 1, by omega, by rw [← HS.out]; exact HE.out, by go_num⟩
        case measure => simp [intOf]; omega
      | false =>
        cases hd : dgB (bt s k) with
        | true =>
          have hi : innB (bt s k) = true := by unfold innB; rw [hd]; simp
          have hst := endOf_step hlt hi
          have HS := Lib.hid hst; clear hst
          go_wp2_with fail
          refine (impl_letter _ (by omega) (by omega) _).mono ?_; rw [hl]; rintro e w' ⟨rfl, rfl⟩
          go_wp2_with fail
          refine (impl_digit _ (by omega) (by omega) _).mono ?_; rw [hd]; rintro e w' ⟨rfl, rfl⟩
          go_wp2_with fail
          go_round
          case rel => exact ⟨k + 1, by omega, by rw [← HS.out]; exact HE.out, by go_num⟩
          case measure => simp [intOf]; omega
        | false =>
          have hi : innB (bt s k) = false := by unfold innB; rw [hl, hd]; rfl
          have hst := endOf_stop (p := innB) (s := s) (a := k) (fun h => by rw [hi] at h; cases h.2)
          have HS := Lib.hid hst; clear hst
          go_wp2_with fail
          refine (impl_letter _ (by omega) (by omega) _).mono ?_; rw [hl]; rintro e w' ⟨rfl, rfl⟩
          go_wp2_with fail
          refine (impl_digit _ (by omega) (by omega) _).mono ?_; rw [hd]; rintro e w' ⟨rfl, rfl⟩
          go_wp2_with fail
          go_ret
          exact ⟨retI (by rw [← HE.out, HS.out]), rfl⟩
    · have hst := endOf_stop (p := innB) (s := s) (a := k) (fun h => hlt h.1)
      have HS := Lib.hid hst; clear hst
      have hd : decide (k < s.size) = false := by simpa using hlt
      go_wp2_with fail
      go_ret
      exact ⟨retI (by rw [← HE.out, HS.out]), rfl⟩

set_option maxHeartbeats 1000000 in
theorem impl_NameOk (s : ByteArray) (hs : s.size ≤ maxLen) (w : World) : Calls Tryz.prog 29 #[.string s] w fun e w' => e = .returned (.bool (nmOk s)) ∧ Below w.heap.size w w' := by
  have HS := Lib.hid hs
  unfold maxLen at hs
  have hb := get_bt s
  by_cases h1 : s.size < 1
  · have e := nmOk_no (.inl h1)
    have E := Lib.hid e; clear e
    have hz : s.toList.isEmpty = true := (noText s).2 (by omega)
    go_enter Tryz.func29, Tryz.ntmps29
    go_wp2_with fail
    go_ret
    exact ⟨retB E.out.symm, Below.refl _ _⟩
  · have hz : s.toList.isEmpty = false := noText_no (by omega)
    by_cases h2 : 40 < s.size
    · have e := nmOk_no (.inr h2)
      have E := Lib.hid e; clear e
      go_enter Tryz.func29, Tryz.ntmps29
      go_wp2_with fail
      go_ret
      exact ⟨retB E.out.symm, Below.refl _ _⟩
    · have hz2 : decide (40 < s.size) = false := by simp; omega
      have hz3 : ¬ (40 : Int) < (s.size : Int) := by omega
      have e := nmOk_in (s := s) (by omega)
      have hp : 0 < s.size := by omega
      have b0 := bt_nonneg s 0
      have b1 := bt_le s 0
      cases hl : letB (bt s 0) with
      | false =>
        rw [hl] at e
        have E := Lib.hid e; clear e
        go_enter Tryz.func29, Tryz.ntmps29
        go_wp2_with fail
        refine (impl_letter _ (by omega) (by omega) _).mono ?_; rw [hl]; rintro e w' ⟨rfl, rfl⟩
        go_wp2_with fail
        go_ret
        exact ⟨retB E.out.symm, Below.refl _ _⟩
      | true =>
        by_cases hk : endOf innB s 0 = s.size
        · have hk2 : ((endOf innB s 0 : Int) == (s.size : Int)) = true := by simp; omega
          have E : Hid (nmOk s = !isWd s) := by show nmOk s = _; rw [e, hl, hk]; simp
          clear e
          go_enter Tryz.func29, Tryz.ntmps29
          go_wp2_with fail
          refine (impl_letter _ (by omega) (by omega) _).mono ?_; rw [hl]; rintro e w' ⟨rfl, rfl⟩
          go_wp2_with fail
          refine (impl_nameEnd s 0 HS.out (by omega) _).mono ?_; rintro e w' ⟨rfl, rfl⟩
          go_wp2_with fail
          refine (impl_IsWord s HS.out _).mono ?_; rintro e w1 ⟨rfl, hB1⟩
          have HB1 := Lib.hid hB1; clear hB1
          go_wp2_with fail
          go_ret
          exact ⟨retB E.out.symm, HB1.out⟩
        · have hk2 : ((endOf innB s 0 : Int) == (s.size : Int)) = false := by simp; omega
          have hk3 : (endOf innB s 0 == s.size) = false := by simp; omega
          have E : Hid (nmOk s = false) := by show nmOk s = _; rw [e, hl, hk3]; simp
          clear e
          go_enter Tryz.func29, Tryz.ntmps29
          go_wp2_with fail
          refine (impl_letter _ (by omega) (by omega) _).mono ?_; rw [hl]; rintro e w' ⟨rfl, rfl⟩
          go_wp2_with fail
          refine (impl_nameEnd s 0 HS.out (by omega) _).mono ?_; rintro e w' ⟨rfl, rfl⟩
          go_wp2_with fail
          go_ret
          exact ⟨retB E.out.symm, Below.refl _ _⟩

end Go.Proofs.YtlfmiikpbdhemaaGreatDoor.Lex
