/-
  What the functions under ReadDec and LooksNum return, of the program and of its model: a contract a function.
-/
import Derived.Test.YthaedmldlenhgaaGreatDoorDec
import Derived.Test.YthaedmldlenhgaaGreatDoorReadPure
import Derived.LoopTactic
import Derived.Outline
namespace Go.Proofs.YthaedmldlenhgaaGreatDoor.Dec
open Go.ChangeShapes Go.WideShapes Go.ChangeAt Go.RowKit Go.PlainAid
open Go.Proofs.YthaedmldlenhgaaGreatDoor.DecPure Go.Proofs.YthaedmldlenhgaaGreatDoor.ReadPure
set_option linter.unusedVariables false

theorem spec_white (b : Int) (h0 : 0 ≤ b) (h1 : b ≤ 255) (w : World) : Calls Tryz.prog 147 #[.int .u8 b] w fun e w' => e = .returned (.bool (spB b)) ∧ w = w' := by
  by_cases h2 : b = 32
  · subst h2
    go_enter Tryz.func147, Tryz.ntmps147
    go_wp2
    go_ret
    exact ⟨rfl, rfl⟩
  · by_cases h3 : b = 9
    · subst h3
      go_enter Tryz.func147, Tryz.ntmps147
      go_wp2
      go_ret
      exact ⟨rfl, rfl⟩
    · have e1 : (b == 32) = false := by simpa using h2
      have e2 : (b == 9) = false := by simpa using h3
      have e3 : spB b = (b == 10) := by simp [spB, e1, e2]
      have E := Lib.hid e3; clear e3 h2 h3
      go_enter Tryz.func147, Tryz.ntmps147
      go_wp2
      go_ret
      exact ⟨retB E.out.symm, rfl⟩

theorem impl_space (b : Int) (h0 : 0 ≤ b) (h1 : b ≤ 255) (w : World) : Calls Tryz.prog 163 #[.int .u8 b] w fun e w' => e = .returned (.bool (spB b)) ∧ w = w' := by
  by_cases h2 : b = 32
  · subst h2
    go_enter Tryz.func163, Tryz.ntmps163
    go_wp2
    go_ret
    exact ⟨rfl, rfl⟩
  · by_cases h3 : b = 9
    · subst h3
      go_enter Tryz.func163, Tryz.ntmps163
      go_wp2
      go_ret
      exact ⟨rfl, rfl⟩
    · have e1 : (b == 32) = false := by simpa using h2
      have e2 : (b == 9) = false := by simpa using h3
      have e3 : spB b = (b == 10) := by simp [spB, e1, e2]
      have E := Lib.hid e3; clear e3 h2 h3
      go_enter Tryz.func163, Tryz.ntmps163
      go_wp2
      go_ret
      exact ⟨retB E.out.symm, rfl⟩

theorem spec_digit (b : Int) (h0 : 0 ≤ b) (h1 : b ≤ 255) (w : World) : Calls Tryz.prog 66 #[.int .u8 b] w fun e w' => e = .returned (.bool (dgB b)) ∧ w = w' := by
  by_cases h2 : b < 48
  · have e : dgB b = false := by simp [dgB]; omega
    have E := Lib.hid e; clear e
    have e1 : decide (48 ≤ b) = false := by simp; omega
    go_enter Tryz.func66, Tryz.ntmps66
    go_wp2
    go_ret
    exact ⟨retB E.out.symm, rfl⟩
  · have e : dgB b = decide (b ≤ 57) := by simp [dgB]; omega
    have E := Lib.hid e; clear e
    have e1 : decide (48 ≤ b) = true := by simp; omega
    have e2 : 48 ≤ b := by omega
    go_enter Tryz.func66, Tryz.ntmps66
    go_wp2
    go_ret
    exact ⟨retB E.out.symm, rfl⟩

theorem impl_digit (b : Int) (h0 : 0 ≤ b) (h1 : b ≤ 255) (w : World) : Calls Tryz.prog 119 #[.int .u8 b] w fun e w' => e = .returned (.bool (dgB b)) ∧ w = w' := by
  by_cases h2 : b < 48
  · have e : dgB b = false := by simp [dgB]; omega
    have E := Lib.hid e; clear e
    have e1 : decide (48 ≤ b) = false := by simp; omega
    go_enter Tryz.func119, Tryz.ntmps119
    go_wp2
    go_ret
    exact ⟨retB E.out.symm, rfl⟩
  · have e : dgB b = decide (b ≤ 57) := by simp [dgB]; omega
    have E := Lib.hid e; clear e
    have e1 : decide (48 ≤ b) = true := by simp; omega
    have e2 : 48 ≤ b := by omega
    go_enter Tryz.func119, Tryz.ntmps119
    go_wp2
    go_ret
    exact ⟨retB E.out.symm, rfl⟩

set_option maxHeartbeats 400000 in
theorem spec_skip (s : ByteArray) (a : Nat) (hs : s.size ≤ maxLen) (ha : a ≤ s.size) (w : World) : Calls Tryz.prog 102 #[.string s, .int .i64 a] w fun e w' => e = .returned (.int .i64 (endOf spB s a)) ∧ w = w' := by
  unfold maxLen at hs
  have hb := get_bt s
  go_enter Tryz.func102, Tryz.ntmps102
  go_wp2
  go_loop [1] (fun i => ∃ k : Nat, k ≤ s.size ∧ endOf spB s k = endOf spB s a ∧ i = .int .i64 k) (fun i => s.size - (intOf i).toNat)
  case atStart => exact ⟨a, ha, rfl, rfl⟩
  case round =>
    obtain ⟨k, hk, he, rfl⟩ := hrel
    have HE := Lib.hid he; clear he
    have b0 := bt_nonneg s k
    have b1 := bt_le s k
    by_cases hlt : k < s.size
    · by_cases hp : spB (bt s k) = true
      · have hst := endOf_step hlt hp
        have HS := Lib.hid hst; clear hst
        go_wp2_with (go_at_call 147; refine (spec_white _ (by omega) (by omega) _).mono ?_; rintro e w' ⟨rfl, rfl⟩)
        go_round
        case rel => exact ⟨k + 1, by omega, by rw [← HS.out]; exact HE.out, by go_num⟩
        case measure => simp [intOf]; omega
      · have hst := endOf_stop (p := spB) (s := s) (a := k) (fun h => hp h.2)
        have HS := Lib.hid hst; clear hst
        have hf := no_eq hp
        clear hp
        go_wp2_with (go_at_call 147; refine (spec_white _ (by omega) (by omega) _).mono ?_; rintro e w' ⟨rfl, rfl⟩)
        go_ret
        exact ⟨retI (by rw [← HE.out, HS.out]), rfl⟩
    · have hst := endOf_stop (p := spB) (s := s) (a := k) (fun h => hlt h.1)
      have HS := Lib.hid hst; clear hst
      have hd : decide (k < s.size) = false := by simpa using hlt
      go_wp2_with (go_at_call 147; refine (spec_white _ (by omega) (by omega) _).mono ?_; rintro e w' ⟨rfl, rfl⟩)
      go_ret
      exact ⟨retI (by rw [← HE.out, HS.out]), rfl⟩

set_option maxHeartbeats 400000 in
theorem impl_spaceEnd (s : ByteArray) (a : Nat) (hs : s.size ≤ maxLen) (ha : a ≤ s.size) (w : World) : Calls Tryz.prog 118 #[.string s, .int .i64 a] w fun e w' => e = .returned (.int .i64 (endOf spB s a)) ∧ w = w' := by
  unfold maxLen at hs
  have hb := get_bt s
  go_enter Tryz.func118, Tryz.ntmps118
  go_wp2
  go_loop [1] (fun i => ∃ k : Nat, k ≤ s.size ∧ endOf spB s k = endOf spB s a ∧ i = .int .i64 k) (fun i => s.size - (intOf i).toNat)
  case atStart => exact ⟨a, ha, rfl, rfl⟩
  case round =>
    obtain ⟨k, hk, he, rfl⟩ := hrel
    have HE := Lib.hid he; clear he
    have b0 := bt_nonneg s k
    have b1 := bt_le s k
    by_cases hlt : k < s.size
    · by_cases hp : spB (bt s k) = true
      · have hst := endOf_step hlt hp
        have HS := Lib.hid hst; clear hst
        go_wp2_with (go_at_call 163; refine (impl_space _ (by omega) (by omega) _).mono ?_; rintro e w' ⟨rfl, rfl⟩)
        go_round
        case rel => exact ⟨k + 1, by omega, by rw [← HS.out]; exact HE.out, by go_num⟩
        case measure => simp [intOf]; omega
      · have hst := endOf_stop (p := spB) (s := s) (a := k) (fun h => hp h.2)
        have HS := Lib.hid hst; clear hst
        have hf := no_eq hp
        clear hp
        go_wp2_with (go_at_call 163; refine (impl_space _ (by omega) (by omega) _).mono ?_; rintro e w' ⟨rfl, rfl⟩)
        go_ret
        exact ⟨retI (by rw [← HE.out, HS.out]), rfl⟩
    · have hst := endOf_stop (p := spB) (s := s) (a := k) (fun h => hlt h.1)
      have HS := Lib.hid hst; clear hst
      have hd : decide (k < s.size) = false := by simpa using hlt
      go_wp2_with (go_at_call 163; refine (impl_space _ (by omega) (by omega) _).mono ?_; rintro e w' ⟨rfl, rfl⟩)
      go_ret
      exact ⟨retI (by rw [← HE.out, HS.out]), rfl⟩

set_option maxHeartbeats 400000 in
theorem impl_digitsEnd (s : ByteArray) (a : Nat) (hs : s.size ≤ maxLen) (ha : a ≤ s.size) (w : World) : Calls Tryz.prog 90 #[.string s, .int .i64 a] w fun e w' => e = .returned (.int .i64 (endOf dgB s a)) ∧ w = w' := by
  unfold maxLen at hs
  have hb := get_bt s
  go_enter Tryz.func90, Tryz.ntmps90
  go_wp2
  go_loop [1] (fun i => ∃ k : Nat, k ≤ s.size ∧ endOf dgB s k = endOf dgB s a ∧ i = .int .i64 k) (fun i => s.size - (intOf i).toNat)
  case atStart => exact ⟨a, ha, rfl, rfl⟩
  case round =>
    obtain ⟨k, hk, he, rfl⟩ := hrel
    have HE := Lib.hid he; clear he
    have b0 := bt_nonneg s k
    have b1 := bt_le s k
    by_cases hlt : k < s.size
    · by_cases hp : dgB (bt s k) = true
      · have hst := endOf_step hlt hp
        have HS := Lib.hid hst; clear hst
        go_wp2_with (go_at_call 119; refine (impl_digit _ (by omega) (by omega) _).mono ?_; rintro e w' ⟨rfl, rfl⟩)
        go_round
        case rel => exact ⟨k + 1, by omega, by rw [← HS.out]; exact HE.out, by go_num⟩
        case measure => simp [intOf]; omega
      · have hst := endOf_stop (p := dgB) (s := s) (a := k) (fun h => hp h.2)
        have HS := Lib.hid hst; clear hst
        have hf := no_eq hp
        clear hp
        go_wp2_with (go_at_call 119; refine (impl_digit _ (by omega) (by omega) _).mono ?_; rintro e w' ⟨rfl, rfl⟩)
        go_ret
        exact ⟨retI (by rw [← HE.out, HS.out]), rfl⟩
    · have hst := endOf_stop (p := dgB) (s := s) (a := k) (fun h => hlt h.1)
      have HS := Lib.hid hst; clear hst
      have hd : decide (k < s.size) = false := by simpa using hlt
      go_wp2_with (go_at_call 119; refine (impl_digit _ (by omega) (by omega) _).mono ?_; rintro e w' ⟨rfl, rfl⟩)
      go_ret
      exact ⟨retI (by rw [← HE.out, HS.out]), rfl⟩

set_option maxHeartbeats 400000 in
theorem impl_whole (d : ByteArray) (hs : d.size ≤ maxLen) (hd : Digs d 0 d.size) (w : World) : Calls Tryz.prog 91 #[.string d] w fun e w' => e = .returned (.int .i64 (min (valF d 0 d.size) 9000000 * 1000000)) ∧ w = w' := by
  unfold maxLen at hs
  have hb := get_bt d
  have HD := Lib.hid hd; clear hd
  go_enter Tryz.func91, Tryz.ntmps91
  go_wp2
  go_loop [3, 4, 7] (fun n _ i => ∃ k : Nat, k ≤ d.size ∧ i = .int .i64 k ∧ n = .int .i64 (min (valF d 0 k) 9000000)) (fun _ _ i => d.size - (intOf i).toNat)
  case atStart => exact ⟨0, Nat.zero_le _, rfl, rfl⟩
  case round =>
    obtain ⟨k, hk, rfl, rfl⟩ := hrel
    have hn := valF_nn (HD.out.less hk)
    by_cases hlt : k < d.size
    · have h1 := HD.out k hlt
      rw [Nat.zero_add] at h1
      have hv : valF d 0 (k + 1) = valF d 0 k * 10 + (bt d k - 48) := by simp only [valF, Nat.zero_add]
      have HV := Lib.hid hv; clear hv
      go_wp2
      all_goals
        go_round
        case rel => exact ⟨k + 1, by omega, by go_num, congrArg (Value.int .i64) (by rw [HV.out]; split <;> omega)⟩
        case measure => simp [intOf]; omega
    · have e : k = d.size := by omega
      subst e
      go_wp2
      go_ret
      exact ⟨rfl, rfl⟩

theorem impl_frac6 (d : ByteArray) (hs : d.size ≤ maxLen) (hd : Digs d 0 d.size) (w : World) : Calls Tryz.prog 196 #[.string d] w fun e w' => e = .returned (.int .i64 (frS d 0 d.size 6)) ∧ w = w' := by
  unfold maxLen at hs
  have hb := get_bt d
  have HD := Lib.hid hd; clear hd
  go_enter Tryz.func196, Tryz.ntmps196
  go_wp2
  go_loop [3, 4, 5] (fun n _ i => ∃ k : Nat, k ≤ 6 ∧ i = .int .i64 k ∧ n = .int .i64 (frS d 0 d.size k) ∧ 0 ≤ frS d 0 d.size k ∧ frS d 0 d.size k ≤ 999999) (fun _ _ i => 6 - (intOf i).toNat)
  case atStart => exact ⟨0, Nat.zero_le _, rfl, rfl, by simp [frS], by simp [frS]⟩
  case round =>
    obtain ⟨k, hk, rfl, rfl, b1, b2⟩ := hrel
    by_cases hlt : k < 6
    · by_cases hc : k < d.size
      · have h1 := HD.out k hc
        rw [Nat.zero_add] at h1
        have hv : frS d 0 d.size (k + 1) = frS d 0 d.size k * 10 + (bt d k - 48) := by simp only [frS, Nat.zero_add]; rw [if_pos hc]
        have hbd : 0 ≤ frS d 0 d.size (k + 1) ∧ frS d 0 d.size (k + 1) ≤ 999999 := frS_step d 0 d.size k hlt HD.out
        have HV := Lib.hid hv; clear hv
        have HB := Lib.hid hbd; clear hbd
        go_wp2
        go_round
        case rel => exact ⟨k + 1, by omega, by go_num, by rw [HV.out], HB.out.1, HB.out.2⟩
        case measure => simp [intOf]; omega
      · have hv : frS d 0 d.size (k + 1) = frS d 0 d.size k * 10 := by simp only [frS, Nat.zero_add]; rw [if_neg hc]; omega
        have hbd : 0 ≤ frS d 0 d.size (k + 1) ∧ frS d 0 d.size (k + 1) ≤ 999999 := frS_step d 0 d.size k hlt HD.out
        have hcd : decide (k < d.size) = false := by simpa using hc
        have HV := Lib.hid hv; clear hv
        have HB := Lib.hid hbd; clear hbd
        go_wp2
        go_round
        case rel => exact ⟨k + 1, by omega, by go_num, by rw [HV.out], HB.out.1, HB.out.2⟩
        case measure => simp [intOf]; omega
    · have e : k = 6 := by omega
      subst e
      go_wp2
      go_ret
      exact ⟨rfl, rfl⟩

theorem impl_space0 (s : ByteArray) (hs : s.size ≤ maxLen) (w : World) : Calls Tryz.prog 118 #[.string s, .int .i64 0] w fun e w' => e = .returned (.int .i64 (rA0 s)) ∧ w = w' :=
  impl_spaceEnd s 0 hs (Nat.zero_le _) w

theorem spec_skip0 (s : ByteArray) (hs : s.size ≤ maxLen) (w : World) : Calls Tryz.prog 102 #[.string s, .int .i64 0] w fun e w' => e = .returned (.int .i64 (rA0 s)) ∧ w = w' :=
  spec_skip s 0 hs (Nat.zero_le _) w

theorem impl_digitsB (s : ByteArray) (hs : s.size ≤ maxLen) (a : Int) (ha : a = (rA1 s : Int)) (w : World) : Calls Tryz.prog 90 #[.string s, .int .i64 a] w fun e w' => e = .returned (.int .i64 (rB s)) ∧ w = w' := by
  subst ha; exact impl_digitsEnd s (rA1 s) hs (rA1_le s) w

theorem impl_digitsC (s : ByteArray) (hs : s.size ≤ maxLen) (hp : rPt s = true) (a : Int) (ha : a = (rB s : Int) + 1) (w : World) : Calls Tryz.prog 90 #[.string s, .int .i64 a] w fun e w' => e = .returned (.int .i64 (rC s)) ∧ w = w' := by
  subst ha
  have h1 := rPt_lt hp
  have e : rC s = endOf dgB s (rB s + 1) := by rw [rC, if_pos hp]
  rw [e]
  exact impl_digitsEnd s (rB s + 1) hs (by omega) w

theorem impl_wholeA (s : ByteArray) (hs : s.size ≤ maxLen) (d : ByteArray) (hd : d = s.extract (rA1 s) (rB s)) (w : World) : Calls Tryz.prog 91 #[.string d] w fun e w' => e = .returned (.int .i64 (wV s)) ∧ w = w' := by
  subst hd
  have h1 := (rB_le s).2
  have hz := size_ext s (rA1 s) (rB s) h1
  have hg : Digs (s.extract (rA1 s) (rB s)) 0 (s.extract (rA1 s) (rB s)).size := by rw [hz]; exact digs_ext s _ _ h1 (rDigs s)
  have h := impl_whole (s.extract (rA1 s) (rB s)) (by rw [hz]; omega) hg w
  rw [hz, valF_ext s (rA1 s) (rB s) h1 _ (Nat.le_refl _)] at h
  exact h

theorem impl_fracA (s : ByteArray) (hs : s.size ≤ maxLen) (d : ByteArray) (hd : (rPt s = true ∧ d = s.extract (rB s + 1) (rC s)) ∨ (rPt s = false ∧ d = ⟨#[]⟩)) (w : World) : Calls Tryz.prog 196 #[.string d] w fun e w' => e = .returned (.int .i64 (fV s)) ∧ w = w' := by
  rcases hd with ⟨hp, rfl⟩ | ⟨hp, rfl⟩
  · have h1 := (rC_le s).2
    have hz := size_ext s (rB s + 1) (rC s) h1
    have hf : rF s = rC s - (rB s + 1) := by rw [rF, if_pos hp]
    have hg : Digs (s.extract (rB s + 1) (rC s)) 0 (s.extract (rB s + 1) (rC s)).size := by rw [hz]; exact digs_ext s _ _ h1 (hf ▸ rFrac s)
    have h := impl_frac6 (s.extract (rB s + 1) (rC s)) (by rw [hz]; omega) hg w
    rw [hz, frS_ext s (rB s + 1) (rC s) h1, ← hf] at h
    exact h
  · have hf : rF s = 0 := by rw [rF, hp]; rfl
    have h := impl_frac6 ⟨#[]⟩ (by decide) (fun k hk => absurd (show k < 0 from hk) (Nat.not_lt_zero k)) w
    have e1 : fV s = 0 := by simp [fV, hf, frS]
    have e2 : frS ⟨#[]⟩ 0 (ByteArray.mk #[]).size 6 = 0 := by rw [show (ByteArray.mk #[]).size = 0 from rfl]; simp [frS]
    rw [e1, ← e2]
    exact h

end Go.Proofs.YthaedmldlenhgaaGreatDoor.Dec
