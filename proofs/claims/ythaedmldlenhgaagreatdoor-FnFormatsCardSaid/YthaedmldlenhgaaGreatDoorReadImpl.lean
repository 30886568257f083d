/-
  What ReadDec of the program returns, way by way: how the number begins, whether there is a point, whether it is too great.
-/
import Derived.Test.YthaedmldlenhgaaGreatDoorRead
import Derived.WalkSpells
namespace Go.Proofs.YthaedmldlenhgaaGreatDoor.Dec
open Go.ChangeShapes Go.WideShapes Go.ChangeAt Go.RowKit Go.PlainAid
open Go.Proofs.YthaedmldlenhgaaGreatDoor.DecPure Go.Proofs.YthaedmldlenhgaaGreatDoor.ReadPure
set_option linter.unusedVariables false

set_option maxHeartbeats 1000000 in
theorem impl_read_endEnd (s : ByteArray) (hs : s.size ≤ maxLen) (hx : decide (rA0 s < s.size) = false) (hy : decide (rB s < s.size) = false) (w : World) :
    Calls Tryz.prog 165 #[.string s] w fun e w' => e = .returned (.tuple #[.int .i64 (rdN s), .int .i64 (rdK s)]) ∧ w = w' := by
  have HS := Lib.hid hs
  unfold maxLen at hs
  have hb := get_bt s
  have hA : rA1 s = rA0 s := by simp [rA1, rSgn, hx]
  have hN : rNeg s = false := by simp [rNeg, hx]
  have b1 := rB_le s
  have hAB : rA0 s ≤ rB s := by omega
  have hABi : (rA0 s : Int) ≤ (rB s : Int) := by omega
  have b2 := rC_le s
  have bw := wV_bd s
  have bf := fV_bd s
  have hlt : s.size ≤ rA0 s := by simpa using hx
  have hp : rPt s = false := by simp [rPt, hy]
  have hC : rC s = rB s := by rw [rC, hp]; rfl
  have hF : rF s = 0 := by rw [rF, hp]; rfl
  have HP := Lib.hid hp; clear hp
  have hbl : s.size ≤ rB s := by simpa using hy
  by_cases hq : rB s = rA0 s
  · have hr := rd_no (s := s) (by simp [rNo, hF, hA, hq])
    have q1 : ((rB s : Int) == (rA0 s : Int)) = true := by simp; omega
    have q2 : (rB s == rA0 s) = true := by simp; omega
    have HR := Lib.hid hr; clear hr
    have HA := Lib.hid hA; clear hA
    clear hN hF hC
    clear hq
    go_enter Tryz.func165, Tryz.ntmps165
    go_wp2_with fail
    refine (impl_space0 s HS.out _).mono ?_; rintro e w' ⟨rfl, rfl⟩
    go_wp2_with fail
    refine (impl_digitsB s HS.out _ (by rw [HA.out]; try rfl) _).mono ?_; rintro e w' ⟨rfl, rfl⟩
    go_wp2_with fail
    go_ret2
    exact ⟨tupI HR.out.1.symm HR.out.2.symm, rfl⟩
  · by_cases hm : 9000000000000 < wV s + fV s
    · have hn : rNo s = false := by simp [rNo, hF, hA]; omega
      have hr := rd_pos hn hN
      rw [if_pos hm, hC] at hr
      have q1 : ((rB s : Int) == (rA0 s : Int)) = false := by simp; omega
      have q2 : (rB s == rA0 s) = false := by simp; omega
      have HR := Lib.hid hr; clear hr
      have HA := Lib.hid hA; clear hA
      clear hN hF hC
      clear hq
      go_enter Tryz.func165, Tryz.ntmps165
      go_wp2_with fail
      refine (impl_space0 s HS.out _).mono ?_; rintro e w' ⟨rfl, rfl⟩
      go_wp2_with fail
      refine (impl_digitsB s HS.out _ (by rw [HA.out]; try rfl) _).mono ?_; rintro e w' ⟨rfl, rfl⟩
      go_wp2_with fail
      refine (impl_wholeA s HS.out _ (by rw [HA.out]) _).mono ?_; rintro e w' ⟨rfl, rfl⟩
      go_wp2_with fail
      refine (impl_fracA s HS.out _ (.inr ⟨HP.out, rfl⟩) _).mono ?_; rintro e w' ⟨rfl, rfl⟩
      go_wp2_with fail
      go_ret2
      exact ⟨tupI HR.out.1.symm HR.out.2.symm, rfl⟩
    · have hn : rNo s = false := by simp [rNo, hF, hA]; omega
      have hr := rd_pos hn hN
      rw [if_neg hm, hC] at hr
      have hm2 : wV s + fV s ≤ 9000000000000 := by omega
      have q1 : ((rB s : Int) == (rA0 s : Int)) = false := by simp; omega
      have q2 : (rB s == rA0 s) = false := by simp; omega
      have HR := Lib.hid hr; clear hr
      have HA := Lib.hid hA; clear hA
      clear hN hF hC
      clear hq
      go_enter Tryz.func165, Tryz.ntmps165
      go_wp2_with fail
      refine (impl_space0 s HS.out _).mono ?_; rintro e w' ⟨rfl, rfl⟩
      go_wp2_with fail
      refine (impl_digitsB s HS.out _ (by rw [HA.out]; try rfl) _).mono ?_; rintro e w' ⟨rfl, rfl⟩
      go_wp2_with fail
      refine (impl_wholeA s HS.out _ (by rw [HA.out]) _).mono ?_; rintro e w' ⟨rfl, rfl⟩
      go_wp2_with fail
      refine (impl_fracA s HS.out _ (.inr ⟨HP.out, rfl⟩) _).mono ?_; rintro e w' ⟨rfl, rfl⟩
      go_wp2_with fail
      go_ret2
      exact ⟨tupI HR.out.1.symm HR.out.2.symm, rfl⟩

set_option maxHeartbeats 1000000 in
theorem impl_read_otherYes (s : ByteArray) (hs : s.size ≤ maxLen) (hlt : rA0 s < s.size) (h45 : (bt s (rA0 s) == 45) = false) (h43 : (bt s (rA0 s) == 43) = false) (hp : rPt s = true) (w : World) :
    Calls Tryz.prog 165 #[.string s] w fun e w' => e = .returned (.tuple #[.int .i64 (rdN s), .int .i64 (rdK s)]) ∧ w = w' := by
  have HS := Lib.hid hs
  unfold maxLen at hs
  have hb := get_bt s
  have hA : rA1 s = rA0 s := by simp [rA1, rSgn, h45, h43]
  have hN : rNeg s = false := by simp [rNeg, h45]
  have b1 := rB_le s
  have hAB : rA0 s ≤ rB s := by omega
  have hABi : (rA0 s : Int) ≤ (rB s : Int) := by omega
  have b2 := rC_le s
  have bw := wV_bd s
  have bf := fV_bd s
  have b3 := rPt_lt hp
  have b4 := rC_ge hp
  have h46 : (bt s (rB s) == 46) = true := by simp [rPt] at hp; simpa using hp.2
  have hF : rF s = rC s - (rB s + 1) := by rw [rF, if_pos hp]
  have hem := ext_empty s (rB s + 1) (rC s) (by omega)
  have HP := Lib.hid hp; clear hp
  by_cases hq : rB s = rA0 s ∧ rC s = rB s + 1
  · obtain ⟨hq, hz⟩ := hq
    have hr := rd_no (s := s) (by simp [rNo, hF, hA, hq] <;> omega)
    have q1 : ((rB s : Int) == (rA0 s : Int)) = true := by simp; omega
    have q2 : (rB s == rA0 s) = true := by simp; omega
    have q3 : (s.extract (rB s + 1) (rC s)).toList.isEmpty = true := by rw [hem]; simp; omega
    have HR := Lib.hid hr; clear hr
    have HA := Lib.hid hA; clear hA
    clear hN hF hem
    clear hq hz
    go_enter Tryz.func165, Tryz.ntmps165
    go_wp2_with fail
    refine (impl_space0 s HS.out _).mono ?_; rintro e w' ⟨rfl, rfl⟩
    go_wp2_with fail
    refine (impl_digitsB s HS.out _ (by rw [HA.out]; try rfl) _).mono ?_; rintro e w' ⟨rfl, rfl⟩
    go_wp2_with fail
    refine (impl_digitsC s HS.out HP.out _ (by rfl) _).mono ?_; rintro e w' ⟨rfl, rfl⟩
    go_wp2_with fail
    go_ret2
    exact ⟨tupI HR.out.1.symm HR.out.2.symm, rfl⟩
  by_cases hq2 : rB s = rA0 s
  · have hz : rB s + 2 ≤ rC s := by omega
    by_cases hm : 9000000000000 < wV s + fV s
    · have hn : rNo s = false := by simp [rNo, hF, hA]; omega
      have hr := rd_pos hn hN
      rw [if_pos hm] at hr
      have q1 : ((rB s : Int) == (rA0 s : Int)) = true := by simp; omega
      have q2 : (rB s == rA0 s) = true := by simp; omega
      have q3 : (s.extract (rB s + 1) (rC s)).toList.isEmpty = false := by rw [hem]; simp; omega
      have HR := Lib.hid hr; clear hr
      have HA := Lib.hid hA; clear hA
      clear hN hF hem
      clear hq2 hq
      go_enter Tryz.func165, Tryz.ntmps165
      go_wp2_with fail
      refine (impl_space0 s HS.out _).mono ?_; rintro e w' ⟨rfl, rfl⟩
      go_wp2_with fail
      refine (impl_digitsB s HS.out _ (by rw [HA.out]; try rfl) _).mono ?_; rintro e w' ⟨rfl, rfl⟩
      go_wp2_with fail
      refine (impl_digitsC s HS.out HP.out _ (by rfl) _).mono ?_; rintro e w' ⟨rfl, rfl⟩
      go_wp2_with fail
      refine (impl_wholeA s HS.out _ (by rw [HA.out]) _).mono ?_; rintro e w' ⟨rfl, rfl⟩
      go_wp2_with fail
      refine (impl_fracA s HS.out _ (.inl ⟨HP.out, rfl⟩) _).mono ?_; rintro e w' ⟨rfl, rfl⟩
      go_wp2_with fail
      go_ret2
      exact ⟨tupI HR.out.1.symm HR.out.2.symm, rfl⟩
    · have hn : rNo s = false := by simp [rNo, hF, hA]; omega
      have hr := rd_pos hn hN
      rw [if_neg hm] at hr
      have hm2 : wV s + fV s ≤ 9000000000000 := by omega
      have q1 : ((rB s : Int) == (rA0 s : Int)) = true := by simp; omega
      have q2 : (rB s == rA0 s) = true := by simp; omega
      have q3 : (s.extract (rB s + 1) (rC s)).toList.isEmpty = false := by rw [hem]; simp; omega
      have HR := Lib.hid hr; clear hr
      have HA := Lib.hid hA; clear hA
      clear hN hF hem
      clear hq2 hq
      go_enter Tryz.func165, Tryz.ntmps165
      go_wp2_with fail
      refine (impl_space0 s HS.out _).mono ?_; rintro e w' ⟨rfl, rfl⟩
      go_wp2_with fail
      refine (impl_digitsB s HS.out _ (by rw [HA.out]; try rfl) _).mono ?_; rintro e w' ⟨rfl, rfl⟩
      go_wp2_with fail
      refine (impl_digitsC s HS.out HP.out _ (by rfl) _).mono ?_; rintro e w' ⟨rfl, rfl⟩
      go_wp2_with fail
      refine (impl_wholeA s HS.out _ (by rw [HA.out]) _).mono ?_; rintro e w' ⟨rfl, rfl⟩
      go_wp2_with fail
      refine (impl_fracA s HS.out _ (.inl ⟨HP.out, rfl⟩) _).mono ?_; rintro e w' ⟨rfl, rfl⟩
      go_wp2_with fail
      go_ret2
      exact ⟨tupI HR.out.1.symm HR.out.2.symm, rfl⟩
  · by_cases hm : 9000000000000 < wV s + fV s
    · have hn : rNo s = false := by simp [rNo, hF, hA]; omega
      have hr := rd_pos hn hN
      rw [if_pos hm] at hr
      have q1 : ((rB s : Int) == (rA0 s : Int)) = false := by simp; omega
      have q2 : (rB s == rA0 s) = false := by simp; omega
      have HR := Lib.hid hr; clear hr
      have HA := Lib.hid hA; clear hA
      clear hN hF hem
      clear hq2 hq
      go_enter Tryz.func165, Tryz.ntmps165
      go_wp2_with fail
      refine (impl_space0 s HS.out _).mono ?_; rintro e w' ⟨rfl, rfl⟩
      go_wp2_with fail
      refine (impl_digitsB s HS.out _ (by rw [HA.out]; try rfl) _).mono ?_; rintro e w' ⟨rfl, rfl⟩
      go_wp2_with fail
      refine (impl_digitsC s HS.out HP.out _ (by rfl) _).mono ?_; rintro e w' ⟨rfl, rfl⟩
      go_wp2_with fail
      refine (impl_wholeA s HS.out _ (by rw [HA.out]) _).mono ?_; rintro e w' ⟨rfl, rfl⟩
      go_wp2_with fail
      refine (impl_fracA s HS.out _ (.inl ⟨HP.out, rfl⟩) _).mono ?_; rintro e w' ⟨rfl, rfl⟩
      go_wp2_with fail
      go_ret2
      exact ⟨tupI HR.out.1.symm HR.out.2.symm, rfl⟩
    · have hn : rNo s = false := by simp [rNo, hF, hA]; omega
      have hr := rd_pos hn hN
      rw [if_neg hm] at hr
      have hm2 : wV s + fV s ≤ 9000000000000 := by omega
      have q1 : ((rB s : Int) == (rA0 s : Int)) = false := by simp; omega
      have q2 : (rB s == rA0 s) = false := by simp; omega
      have HR := Lib.hid hr; clear hr
      have HA := Lib.hid hA; clear hA
      clear hN hF hem
      clear hq2 hq
      go_enter Tryz.func165, Tryz.ntmps165
      go_wp2_with fail
      refine (impl_space0 s HS.out _).mono ?_; rintro e w' ⟨rfl, rfl⟩
      go_wp2_with fail
      refine (impl_digitsB s HS.out _ (by rw [HA.out]; try rfl) _).mono ?_; rintro e w' ⟨rfl, rfl⟩
      go_wp2_with fail
      refine (impl_digitsC s HS.out HP.out _ (by rfl) _).mono ?_; rintro e w' ⟨rfl, rfl⟩
      go_wp2_with fail
      refine (impl_wholeA s HS.out _ (by rw [HA.out]) _).mono ?_; rintro e w' ⟨rfl, rfl⟩
      go_wp2_with fail
      refine (impl_fracA s HS.out _ (.inl ⟨HP.out, rfl⟩) _).mono ?_; rintro e w' ⟨rfl, rfl⟩
      go_wp2_with fail
      go_ret2
      exact ⟨tupI HR.out.1.symm HR.out.2.symm, rfl⟩

set_option maxHeartbeats 1000000 in
theorem impl_read_otherEnd (s : ByteArray) (hs : s.size ≤ maxLen) (hlt : rA0 s < s.size) (h45 : (bt s (rA0 s) == 45) = false) (h43 : (bt s (rA0 s) == 43) = false) (hy : decide (rB s < s.size) = false) (w : World) :
    Calls Tryz.prog 165 #[.string s] w fun e w' => e = .returned (.tuple #[.int .i64 (rdN s), .int .i64 (rdK s)]) ∧ w = w' := by
  have HS := Lib.hid hs
  unfold maxLen at hs
  have hb := get_bt s
  have hA : rA1 s = rA0 s := by simp [rA1, rSgn, h45, h43]
  have hN : rNeg s = false := by simp [rNeg, h45]
  have b1 := rB_le s
  have hAB : rA0 s ≤ rB s := by omega
  have hABi : (rA0 s : Int) ≤ (rB s : Int) := by omega
  have b2 := rC_le s
  have bw := wV_bd s
  have bf := fV_bd s
  have hp : rPt s = false := by simp [rPt, hy]
  have hC : rC s = rB s := by rw [rC, hp]; rfl
  have hF : rF s = 0 := by rw [rF, hp]; rfl
  have HP := Lib.hid hp; clear hp
  have hbl : s.size ≤ rB s := by simpa using hy
  by_cases hq : rB s = rA0 s
  · have hr := rd_no (s := s) (by simp [rNo, hF, hA, hq])
    have q1 : ((rB s : Int) == (rA0 s : Int)) = true := by simp; omega
    have q2 : (rB s == rA0 s) = true := by simp; omega
    have HR := Lib.hid hr; clear hr
    have HA := Lib.hid hA; clear hA
    clear hN hF hC
    clear hq
    go_enter Tryz.func165, Tryz.ntmps165
    go_wp2_with fail
    refine (impl_space0 s HS.out _).mono ?_; rintro e w' ⟨rfl, rfl⟩
    go_wp2_with fail
    refine (impl_digitsB s HS.out _ (by rw [HA.out]; try rfl) _).mono ?_; rintro e w' ⟨rfl, rfl⟩
    go_wp2_with fail
    go_ret2
    exact ⟨tupI HR.out.1.symm HR.out.2.symm, rfl⟩
  · by_cases hm : 9000000000000 < wV s + fV s
    · have hn : rNo s = false := by simp [rNo, hF, hA]; omega
      have hr := rd_pos hn hN
      rw [if_pos hm, hC] at hr
      have q1 : ((rB s : Int) == (rA0 s : Int)) = false := by simp; omega
      have q2 : (rB s == rA0 s) = false := by simp; omega
      have HR := Lib.hid hr; clear hr
      have HA := Lib.hid hA; clear hA
      clear hN hF hC
      clear hq
      go_enter Tryz.func165, Tryz.ntmps165
      go_wp2_with fail
      refine (impl_space0 s HS.out _).mono ?_; rintro e w' ⟨rfl, rfl⟩
      go_wp2_with fail
      refine (impl_digitsB s HS.out _ (by rw [HA.out]; try rfl) _).mono ?_; rintro e w' ⟨rfl, rfl⟩
      go_wp2_with fail
      refine (impl_wholeA s HS.out _ (by rw [HA.out]) _).mono ?_; rintro e w' ⟨rfl, rfl⟩
      go_wp2_with fail
      refine (impl_fracA s HS.out _ (.inr ⟨HP.out, rfl⟩) _).mono ?_; rintro e w' ⟨rfl, rfl⟩
      go_wp2_with fail
      go_ret2
      exact ⟨tupI HR.out.1.symm HR.out.2.symm, rfl⟩
    · have hn : rNo s = false := by simp [rNo, hF, hA]; omega
      have hr := rd_pos hn hN
      rw [if_neg hm, hC] at hr
      have hm2 : wV s + fV s ≤ 9000000000000 := by omega
      have q1 : ((rB s : Int) == (rA0 s : Int)) = false := by simp; omega
      have q2 : (rB s == rA0 s) = false := by simp; omega
      have HR := Lib.hid hr; clear hr
      have HA := Lib.hid hA; clear hA
      clear hN hF hC
      clear hq
      go_enter Tryz.func165, Tryz.ntmps165
      go_wp2_with fail
      refine (impl_space0 s HS.out _).mono ?_; rintro e w' ⟨rfl, rfl⟩
      go_wp2_with fail
      refine (impl_digitsB s HS.out _ (by rw [HA.out]; try rfl) _).mono ?_; rintro e w' ⟨rfl, rfl⟩
      go_wp2_with fail
      refine (impl_wholeA s HS.out _ (by rw [HA.out]) _).mono ?_; rintro e w' ⟨rfl, rfl⟩
      go_wp2_with fail
      refine (impl_fracA s HS.out _ (.inr ⟨HP.out, rfl⟩) _).mono ?_; rintro e w' ⟨rfl, rfl⟩
      go_wp2_with fail
      go_ret2
      exact ⟨tupI HR.out.1.symm HR.out.2.symm, rfl⟩

set_option maxHeartbeats 1000000 in
theorem impl_read_otherOther (s : ByteArray) (hs : s.size ≤ maxLen) (hlt : rA0 s < s.size) (h45 : (bt s (rA0 s) == 45) = false) (h43 : (bt s (rA0 s) == 43) = false) (hbl : rB s < s.size) (h46 : (bt s (rB s) == 46) = false) (w : World) :
    Calls Tryz.prog 165 #[.string s] w fun e w' => e = .returned (.tuple #[.int .i64 (rdN s), .int .i64 (rdK s)]) ∧ w = w' := by
  have HS := Lib.hid hs
  unfold maxLen at hs
  have hb := get_bt s
  have hA : rA1 s = rA0 s := by simp [rA1, rSgn, h45, h43]
  have hN : rNeg s = false := by simp [rNeg, h45]
  have b1 := rB_le s
  have hAB : rA0 s ≤ rB s := by omega
  have hABi : (rA0 s : Int) ≤ (rB s : Int) := by omega
  have b2 := rC_le s
  have bw := wV_bd s
  have bf := fV_bd s
  have hp : rPt s = false := by simp [rPt, h46]
  have hC : rC s = rB s := by rw [rC, hp]; rfl
  have hF : rF s = 0 := by rw [rF, hp]; rfl
  have HP := Lib.hid hp; clear hp
  by_cases hq : rB s = rA0 s
  · have hr := rd_no (s := s) (by simp [rNo, hF, hA, hq])
    have q1 : ((rB s : Int) == (rA0 s : Int)) = true := by simp; omega
    have q2 : (rB s == rA0 s) = true := by simp; omega
    have HR := Lib.hid hr; clear hr
    have HA := Lib.hid hA; clear hA
    clear hN hF hC
    clear hq
    go_enter Tryz.func165, Tryz.ntmps165
    go_wp2_with fail
    refine (impl_space0 s HS.out _).mono ?_; rintro e w' ⟨rfl, rfl⟩
    go_wp2_with fail
    refine (impl_digitsB s HS.out _ (by rw [HA.out]; try rfl) _).mono ?_; rintro e w' ⟨rfl, rfl⟩
    go_wp2_with fail
    go_ret2
    exact ⟨tupI HR.out.1.symm HR.out.2.symm, rfl⟩
  · by_cases hm : 9000000000000 < wV s + fV s
    · have hn : rNo s = false := by simp [rNo, hF, hA]; omega
      have hr := rd_pos hn hN
      rw [if_pos hm, hC] at hr
      have q1 : ((rB s : Int) == (rA0 s : Int)) = false := by simp; omega
      have q2 : (rB s == rA0 s) = false := by simp; omega
      have HR := Lib.hid hr; clear hr
      have HA := Lib.hid hA; clear hA
      clear hN hF hC
      clear hq
      go_enter Tryz.func165, Tryz.ntmps165
      go_wp2_with fail
      refine (impl_space0 s HS.out _).mono ?_; rintro e w' ⟨rfl, rfl⟩
      go_wp2_with fail
      refine (impl_digitsB s HS.out _ (by rw [HA.out]; try rfl) _).mono ?_; rintro e w' ⟨rfl, rfl⟩
      go_wp2_with fail
      refine (impl_wholeA s HS.out _ (by rw [HA.out]) _).mono ?_; rintro e w' ⟨rfl, rfl⟩
      go_wp2_with fail
      refine (impl_fracA s HS.out _ (.inr ⟨HP.out, rfl⟩) _).mono ?_; rintro e w' ⟨rfl, rfl⟩
      go_wp2_with fail
      go_ret2
      exact ⟨tupI HR.out.1.symm HR.out.2.symm, rfl⟩
    · have hn : rNo s = false := by simp [rNo, hF, hA]; omega
      have hr := rd_pos hn hN
      rw [if_neg hm, hC] at hr
      have hm2 : wV s + fV s ≤ 9000000000000 := by omega
      have q1 : ((rB s : Int) == (rA0 s : Int)) = false := by simp; omega
      have q2 : (rB s == rA0 s) = false := by simp; omega
      have HR := Lib.hid hr; clear hr
      have HA := Lib.hid hA; clear hA
      clear hN hF hC
      clear hq
      go_enter Tryz.func165, Tryz.ntmps165
      go_wp2_with fail
      refine (impl_space0 s HS.out _).mono ?_; rintro e w' ⟨rfl, rfl⟩
      go_wp2_with fail
      refine (impl_digitsB s HS.out _ (by rw [HA.out]; try rfl) _).mono ?_; rintro e w' ⟨rfl, rfl⟩
      go_wp2_with fail
      refine (impl_wholeA s HS.out _ (by rw [HA.out]) _).mono ?_; rintro e w' ⟨rfl, rfl⟩
      go_wp2_with fail
      refine (impl_fracA s HS.out _ (.inr ⟨HP.out, rfl⟩) _).mono ?_; rintro e w' ⟨rfl, rfl⟩
      go_wp2_with fail
      go_ret2
      exact ⟨tupI HR.out.1.symm HR.out.2.symm, rfl⟩

set_option maxHeartbeats 1000000 in
theorem impl_read_minusYes (s : ByteArray) (hs : s.size ≤ maxLen) (hlt : rA0 s < s.size) (h45 : (bt s (rA0 s) == 45) = true) (hp : rPt s = true) (w : World) :
    Calls Tryz.prog 165 #[.string s] w fun e w' => e = .returned (.tuple #[.int .i64 (rdN s), .int .i64 (rdK s)]) ∧ w = w' := by
  have HS := Lib.hid hs
  unfold maxLen at hs
  have hb := get_bt s
  have hA : rA1 s = rA0 s + 1 := by simp [rA1, rSgn, hlt, h45]
  have hN : rNeg s = true := by simp [rNeg, hlt, h45]
  have b1 := rB_le s
  have hAB : rA0 s + 1 ≤ rB s := by omega
  have hABi : (rA0 s : Int) + 1 ≤ (rB s : Int) := by omega
  have b2 := rC_le s
  have bw := wV_bd s
  have bf := fV_bd s
  have b3 := rPt_lt hp
  have b4 := rC_ge hp
  have h46 : (bt s (rB s) == 46) = true := by simp [rPt] at hp; simpa using hp.2
  have hF : rF s = rC s - (rB s + 1) := by rw [rF, if_pos hp]
  have hem := ext_empty s (rB s + 1) (rC s) (by omega)
  have HP := Lib.hid hp; clear hp
  by_cases hq : rB s = rA0 s + 1 ∧ rC s = rB s + 1
  · obtain ⟨hq, hz⟩ := hq
    have hr := rd_no (s := s) (by simp [rNo, hF, hA, hq] <;> omega)
    have q1 : ((rB s : Int) == (rA0 s : Int) + 1) = true := by simp; omega
    have q3 : (s.extract (rB s + 1) (rC s)).toList.isEmpty = true := by rw [hem]; simp; omega
    have HR := Lib.hid hr; clear hr
    have HA := Lib.hid hA; clear hA
    clear hN hF hem
    clear hq hz
    go_enter Tryz.func165, Tryz.ntmps165
    go_wp2_with fail
    refine (impl_space0 s HS.out _).mono ?_; rintro e w' ⟨rfl, rfl⟩
    go_wp2_with fail
    refine (impl_digitsB s HS.out _ (by rw [HA.out]; try rfl) _).mono ?_; rintro e w' ⟨rfl, rfl⟩
    go_wp2_with fail
    refine (impl_digitsC s HS.out HP.out _ (by rfl) _).mono ?_; rintro e w' ⟨rfl, rfl⟩
    go_wp2_with fail
    go_ret2
    exact ⟨tupI HR.out.1.symm HR.out.2.symm, rfl⟩
  by_cases hq2 : rB s = rA0 s + 1
  · have hz : rB s + 2 ≤ rC s := by omega
    by_cases hm : 9000000000000 < wV s + fV s
    · have hn : rNo s = false := by simp [rNo, hF, hA]; omega
      have hr := rd_neg hn hN
      rw [if_pos hm] at hr
      have q1 : ((rB s : Int) == (rA0 s : Int) + 1) = true := by simp; omega
      have q3 : (s.extract (rB s + 1) (rC s)).toList.isEmpty = false := by rw [hem]; simp; omega
      have HR := Lib.hid hr; clear hr
      have HA := Lib.hid hA; clear hA
      clear hN hF hem
      clear hq2 hq
      go_enter Tryz.func165, Tryz.ntmps165
      go_wp2_with fail
      refine (impl_space0 s HS.out _).mono ?_; rintro e w' ⟨rfl, rfl⟩
      go_wp2_with fail
      refine (impl_digitsB s HS.out _ (by rw [HA.out]; try rfl) _).mono ?_; rintro e w' ⟨rfl, rfl⟩
      go_wp2_with fail
      refine (impl_digitsC s HS.out HP.out _ (by rfl) _).mono ?_; rintro e w' ⟨rfl, rfl⟩
      go_wp2_with fail
      refine (impl_wholeA s HS.out _ (by rw [HA.out]) _).mono ?_; rintro e w' ⟨rfl, rfl⟩
      go_wp2_with fail
      refine (impl_fracA s HS.out _ (.inl ⟨HP.out, rfl⟩) _).mono ?_; rintro e w' ⟨rfl, rfl⟩
      go_wp2_with fail
      go_ret2
      exact ⟨tupI HR.out.1.symm HR.out.2.symm, rfl⟩
    · have hn : rNo s = false := by simp [rNo, hF, hA]; omega
      have hr := rd_neg hn hN
      rw [if_neg hm] at hr
      have hm2 : wV s + fV s ≤ 9000000000000 := by omega
      have q1 : ((rB s : Int) == (rA0 s : Int) + 1) = true := by simp; omega
      have q3 : (s.extract (rB s + 1) (rC s)).toList.isEmpty = false := by rw [hem]; simp; omega
      have HR := Lib.hid hr; clear hr
      have HA := Lib.hid hA; clear hA
      clear hN hF hem
      clear hq2 hq
      go_enter Tryz.func165, Tryz.ntmps165
      go_wp2_with fail
      refine (impl_space0 s HS.out _).mono ?_; rintro e w' ⟨rfl, rfl⟩
      go_wp2_with fail
      refine (impl_digitsB s HS.out _ (by rw [HA.out]; try rfl) _).mono ?_; rintro e w' ⟨rfl, rfl⟩
      go_wp2_with fail
      refine (impl_digitsC s HS.out HP.out _ (by rfl) _).mono ?_; rintro e w' ⟨rfl, rfl⟩
      go_wp2_with fail
      refine (impl_wholeA s HS.out _ (by rw [HA.out]) _).mono ?_; rintro e w' ⟨rfl, rfl⟩
      go_wp2_with fail
      refine (impl_fracA s HS.out _ (.inl ⟨HP.out, rfl⟩) _).mono ?_; rintro e w' ⟨rfl, rfl⟩
      go_wp2_with fail
      go_ret2
      exact ⟨tupI HR.out.1.symm HR.out.2.symm, rfl⟩
  · by_cases hm : 9000000000000 < wV s + fV s
    · have hn : rNo s = false := by simp [rNo, hF, hA]; omega
      have hr := rd_neg hn hN
      rw [if_pos hm] at hr
      have q1 : ((rB s : Int) == (rA0 s : Int) + 1) = false := by simp; omega
      have HR := Lib.hid hr; clear hr
      have HA := Lib.hid hA; clear hA
      clear hN hF hem
      clear hq2 hq
      go_enter Tryz.func165, Tryz.ntmps165
      go_wp2_with fail
      refine (impl_space0 s HS.out _).mono ?_; rintro e w' ⟨rfl, rfl⟩
      go_wp2_with fail
      refine (impl_digitsB s HS.out _ (by rw [HA.out]; try rfl) _).mono ?_; rintro e w' ⟨rfl, rfl⟩
      go_wp2_with fail
      refine (impl_digitsC s HS.out HP.out _ (by rfl) _).mono ?_; rintro e w' ⟨rfl, rfl⟩
      go_wp2_with fail
      refine (impl_wholeA s HS.out _ (by rw [HA.out]) _).mono ?_; rintro e w' ⟨rfl, rfl⟩
      go_wp2_with fail
      refine (impl_fracA s HS.out _ (.inl ⟨HP.out, rfl⟩) _).mono ?_; rintro e w' ⟨rfl, rfl⟩
      go_wp2_with fail
      go_ret2
      exact ⟨tupI HR.out.1.symm HR.out.2.symm, rfl⟩
    · have hn : rNo s = false := by simp [rNo, hF, hA]; omega
      have hr := rd_neg hn hN
      rw [if_neg hm] at hr
      have hm2 : wV s + fV s ≤ 9000000000000 := by omega
      have q1 : ((rB s : Int) == (rA0 s : Int) + 1) = false := by simp; omega
      have HR := Lib.hid hr; clear hr
      have HA := Lib.hid hA; clear hA
      clear hN hF hem
      clear hq2 hq
      go_enter Tryz.func165, Tryz.ntmps165
      go_wp2_with fail
      refine (impl_space0 s HS.out _).mono ?_; rintro e w' ⟨rfl, rfl⟩
      go_wp2_with fail
      refine (impl_digitsB s HS.out _ (by rw [HA.out]; try rfl) _).mono ?_; rintro e w' ⟨rfl, rfl⟩
      go_wp2_with fail
      refine (impl_digitsC s HS.out HP.out _ (by rfl) _).mono ?_; rintro e w' ⟨rfl, rfl⟩
      go_wp2_with fail
      refine (impl_wholeA s HS.out _ (by rw [HA.out]) _).mono ?_; rintro e w' ⟨rfl, rfl⟩
      go_wp2_with fail
      refine (impl_fracA s HS.out _ (.inl ⟨HP.out, rfl⟩) _).mono ?_; rintro e w' ⟨rfl, rfl⟩
      go_wp2_with fail
      go_ret2
      exact ⟨tupI HR.out.1.symm HR.out.2.symm, rfl⟩

set_option maxHeartbeats 1000000 in
theorem impl_read_minusEnd (s : ByteArray) (hs : s.size ≤ maxLen) (hlt : rA0 s < s.size) (h45 : (bt s (rA0 s) == 45) = true) (hy : decide (rB s < s.size) = false) (w : World) :
    Calls Tryz.prog 165 #[.string s] w fun e w' => e = .returned (.tuple #[.int .i64 (rdN s), .int .i64 (rdK s)]) ∧ w = w' := by
  have HS := Lib.hid hs
  unfold maxLen at hs
  have hb := get_bt s
  have hA : rA1 s = rA0 s + 1 := by simp [rA1, rSgn, hlt, h45]
  have hN : rNeg s = true := by simp [rNeg, hlt, h45]
  have b1 := rB_le s
  have hAB : rA0 s + 1 ≤ rB s := by omega
  have hABi : (rA0 s : Int) + 1 ≤ (rB s : Int) := by omega
  have b2 := rC_le s
  have bw := wV_bd s
  have bf := fV_bd s
  have hp : rPt s = false := by simp [rPt, hy]
  have hC : rC s = rB s := by rw [rC, hp]; rfl
  have hF : rF s = 0 := by rw [rF, hp]; rfl
  have HP := Lib.hid hp; clear hp
  have hbl : s.size ≤ rB s := by simpa using hy
  by_cases hq : rB s = rA0 s + 1
  · have hr := rd_no (s := s) (by simp [rNo, hF, hA, hq])
    have q1 : ((rB s : Int) == (rA0 s : Int) + 1) = true := by simp; omega
    have HR := Lib.hid hr; clear hr
    have HA := Lib.hid hA; clear hA
    clear hN hF hC
    clear hq
    go_enter Tryz.func165, Tryz.ntmps165
    go_wp2_with fail
    refine (impl_space0 s HS.out _).mono ?_; rintro e w' ⟨rfl, rfl⟩
    go_wp2_with fail
    refine (impl_digitsB s HS.out _ (by rw [HA.out]; try rfl) _).mono ?_; rintro e w' ⟨rfl, rfl⟩
    go_wp2_with fail
    go_ret2
    exact ⟨tupI HR.out.1.symm HR.out.2.symm, rfl⟩
  · by_cases hm : 9000000000000 < wV s + fV s
    · have hn : rNo s = false := by simp [rNo, hF, hA]; omega
      have hr := rd_neg hn hN
      rw [if_pos hm, hC] at hr
      have q1 : ((rB s : Int) == (rA0 s : Int) + 1) = false := by simp; omega
      have HR := Lib.hid hr; clear hr
      have HA := Lib.hid hA; clear hA
      clear hN hF hC
      clear hq
      go_enter Tryz.func165, Tryz.ntmps165
      go_wp2_with fail
      refine (impl_space0 s HS.out _).mono ?_; rintro e w' ⟨rfl, rfl⟩
      go_wp2_with fail
      refine (impl_digitsB s HS.out _ (by rw [HA.out]; try rfl) _).mono ?_; rintro e w' ⟨rfl, rfl⟩
      go_wp2_with fail
      refine (impl_wholeA s HS.out _ (by rw [HA.out]) _).mono ?_; rintro e w' ⟨rfl, rfl⟩
      go_wp2_with fail
      refine (impl_fracA s HS.out _ (.inr ⟨HP.out, rfl⟩) _).mono ?_; rintro e w' ⟨rfl, rfl⟩
      go_wp2_with fail
      go_ret2
      exact ⟨tupI HR.out.1.symm HR.out.2.symm, rfl⟩
    · have hn : rNo s = false := by simp [rNo, hF, hA]; omega
      have hr := rd_neg hn hN
      rw [if_neg hm, hC] at hr
      have hm2 : wV s + fV s ≤ 9000000000000 := by omega
      have q1 : ((rB s : Int) == (rA0 s : Int) + 1) = false := by simp; omega
      have HR := Lib.hid hr; clear hr
      have HA := Lib.hid hA; clear hA
      clear hN hF hC
      clear hq
      go_enter Tryz.func165, Tryz.ntmps165
      go_wp2_with fail
      refine (impl_space0 s HS.out _).mono ?_; rintro e w' ⟨rfl, rfl⟩
      go_wp2_with fail
      refine (impl_digitsB s HS.out _ (by rw [HA.out]; try rfl) _).mono ?_; rintro e w' ⟨rfl, rfl⟩
      go_wp2_with fail
      refine (impl_wholeA s HS.out _ (by rw [HA.out]) _).mono ?_; rintro e w' ⟨rfl, rfl⟩
      go_wp2_with fail
      refine (impl_fracA s HS.out _ (.inr ⟨HP.out, rfl⟩) _).mono ?_; rintro e w' ⟨rfl, rfl⟩
      go_wp2_with fail
      go_ret2
      exact ⟨tupI HR.out.1.symm HR.out.2.symm, rfl⟩

set_option maxHeartbeats 1000000 in
theorem impl_read_minusOther (s : ByteArray) (hs : s.size ≤ maxLen) (hlt : rA0 s < s.size) (h45 : (bt s (rA0 s) == 45) = true) (hbl : rB s < s.size) (h46 : (bt s (rB s) == 46) = false) (w : World) :
    Calls Tryz.prog 165 #[.string s] w fun e w' => e = .returned (.tuple #[.int .i64 (rdN s), .int .i64 (rdK s)]) ∧ w = w' := by
  have HS := Lib.hid hs
  unfold maxLen at hs
  have hb := get_bt s
  have hA : rA1 s = rA0 s + 1 := by simp [rA1, rSgn, hlt, h45]
  have hN : rNeg s = true := by simp [rNeg, hlt, h45]
  have b1 := rB_le s
  have hAB : rA0 s + 1 ≤ rB s := by omega
  have hABi : (rA0 s : Int) + 1 ≤ (rB s : Int) := by omega
  have b2 := rC_le s
  have bw := wV_bd s
  have bf := fV_bd s
  have hp : rPt s = false := by simp [rPt, h46]
  have hC : rC s = rB s := by rw [rC, hp]; rfl
  have hF : rF s = 0 := by rw [rF, hp]; rfl
  have HP := Lib.hid hp; clear hp
  by_cases hq : rB s = rA0 s + 1
  · have hr := rd_no (s := s) (by simp [rNo, hF, hA, hq])
    have q1 : ((rB s : Int) == (rA0 s : Int) + 1) = true := by simp; omega
    have HR := Lib.hid hr; clear hr
    have HA := Lib.hid hA; clear hA
    clear hN hF hC
    clear hq
    go_enter Tryz.func165, Tryz.ntmps165
    go_wp2_with fail
    refine (impl_space0 s HS.out _).mono ?_; rintro e w' ⟨rfl, rfl⟩
    go_wp2_with fail
    refine (impl_digitsB s HS.out _ (by rw [HA.out]; try rfl) _).mono ?_; rintro e w' ⟨rfl, rfl⟩
    go_wp2_with fail
    go_ret2
    exact ⟨tupI HR.out.1.symm HR.out.2.symm, rfl⟩
  · by_cases hm : 9000000000000 < wV s + fV s
    · have hn : rNo s = false := by simp [rNo, hF, hA]; omega
      have hr := rd_neg hn hN
      rw [if_pos hm, hC] at hr
      have q1 : ((rB s : Int) == (rA0 s : Int) + 1) = false := by simp; omega
      have HR := Lib.hid hr; clear hr
      have HA := Lib.hid hA; clear hA
      clear hN hF hC
      clear hq
      go_enter Tryz.func165, Tryz.ntmps165
      go_wp2_with fail
      refine (impl_space0 s HS.out _).mono ?_; rintro e w' ⟨rfl, rfl⟩
      go_wp2_with fail
      refine (impl_digitsB s HS.out _ (by rw [HA.out]; try rfl) _).mono ?_; rintro e w' ⟨rfl, rfl⟩
      go_wp2_with fail
      refine (impl_wholeA s HS.out _ (by rw [HA.out]) _).mono ?_; rintro e w' ⟨rfl, rfl⟩
      go_wp2_with fail
      refine (impl_fracA s HS.out _ (.inr ⟨HP.out, rfl⟩) _).mono ?_; rintro e w' ⟨rfl, rfl⟩
      go_wp2_with fail
      go_ret2
      exact ⟨tupI HR.out.1.symm HR.out.2.symm, rfl⟩
    · have hn : rNo s = false := by simp [rNo, hF, hA]; omega
      have hr := rd_neg hn hN
      rw [if_neg hm, hC] at hr
      have hm2 : wV s + fV s ≤ 9000000000000 := by omega
      have q1 : ((rB s : Int) == (rA0 s : Int) + 1) = false := by simp; omega
      have HR := Lib.hid hr; clear hr
      have HA := Lib.hid hA; clear hA
      clear hN hF hC
      clear hq
      go_enter Tryz.func165, Tryz.ntmps165
      go_wp2_with fail
      refine (impl_space0 s HS.out _).mono ?_; rintro e w' ⟨rfl, rfl⟩
      go_wp2_with fail
      refine (impl_digitsB s HS.out _ (by rw [HA.out]; try rfl) _).mono ?_; rintro e w' ⟨rfl, rfl⟩
      go_wp2_with fail
      refine (impl_wholeA s HS.out _ (by rw [HA.out]) _).mono ?_; rintro e w' ⟨rfl, rfl⟩
      go_wp2_with fail
      refine (impl_fracA s HS.out _ (.inr ⟨HP.out, rfl⟩) _).mono ?_; rintro e w' ⟨rfl, rfl⟩
      go_wp2_with fail
      go_ret2
      exact ⟨tupI HR.out.1.symm HR.out.2.symm, rfl⟩

set_option maxHeartbeats 1000000 in
theorem impl_read_plusYes (s : ByteArray) (hs : s.size ≤ maxLen) (hlt : rA0 s < s.size) (h45 : (bt s (rA0 s) == 45) = false) (h43 : (bt s (rA0 s) == 43) = true) (hp : rPt s = true) (w : World) :
    Calls Tryz.prog 165 #[.string s] w fun e w' => e = .returned (.tuple #[.int .i64 (rdN s), .int .i64 (rdK s)]) ∧ w = w' := by
  have HS := Lib.hid hs
  unfold maxLen at hs
  have hb := get_bt s
  have hA : rA1 s = rA0 s + 1 := by simp [rA1, rSgn, hlt, h43]
  have hN : rNeg s = false := by simp [rNeg, h45]
  have b1 := rB_le s
  have hAB : rA0 s + 1 ≤ rB s := by omega
  have hABi : (rA0 s : Int) + 1 ≤ (rB s : Int) := by omega
  have b2 := rC_le s
  have bw := wV_bd s
  have bf := fV_bd s
  have b3 := rPt_lt hp
  have b4 := rC_ge hp
  have h46 : (bt s (rB s) == 46) = true := by simp [rPt] at hp; simpa using hp.2
  have hF : rF s = rC s - (rB s + 1) := by rw [rF, if_pos hp]
  have hem := ext_empty s (rB s + 1) (rC s) (by omega)
  have HP := Lib.hid hp; clear hp
  by_cases hq : rB s = rA0 s + 1 ∧ rC s = rB s + 1
  · obtain ⟨hq, hz⟩ := hq
    have hr := rd_no (s := s) (by simp [rNo, hF, hA, hq] <;> omega)
    have q1 : ((rB s : Int) == (rA0 s : Int) + 1) = true := by simp; omega
    have q3 : (s.extract (rB s + 1) (rC s)).toList.isEmpty = true := by rw [hem]; simp; omega
    have HR := Lib.hid hr; clear hr
    have HA := Lib.hid hA; clear hA
    clear hN hF hem
    clear hq hz
    go_enter Tryz.func165, Tryz.ntmps165
    go_wp2_with fail
    refine (impl_space0 s HS.out _).mono ?_; rintro e w' ⟨rfl, rfl⟩
    go_wp2_with fail
    refine (impl_digitsB s HS.out _ (by rw [HA.out]; try rfl) _).mono ?_; rintro e w' ⟨rfl, rfl⟩
    go_wp2_with fail
    refine (impl_digitsC s HS.out HP.out _ (by rfl) _).mono ?_; rintro e w' ⟨rfl, rfl⟩
    go_wp2_with fail
    go_ret2
    exact ⟨tupI HR.out.1.symm HR.out.2.symm, rfl⟩
  by_cases hq2 : rB s = rA0 s + 1
  · have hz : rB s + 2 ≤ rC s := by omega
    by_cases hm : 9000000000000 < wV s + fV s
    · have hn : rNo s = false := by simp [rNo, hF, hA]; omega
      have hr := rd_pos hn hN
      rw [if_pos hm] at hr
      have q1 : ((rB s : Int) == (rA0 s : Int) + 1) = true := by simp; omega
      have q3 : (s.extract (rB s + 1) (rC s)).toList.isEmpty = false := by rw [hem]; simp; omega
      have HR := Lib.hid hr; clear hr
      have HA := Lib.hid hA; clear hA
      clear hN hF hem
      clear hq2 hq
      go_enter Tryz.func165, Tryz.ntmps165
      go_wp2_with fail
      refine (impl_space0 s HS.out _).mono ?_; rintro e w' ⟨rfl, rfl⟩
      go_wp2_with fail
      refine (impl_digitsB s HS.out _ (by rw [HA.out]; try rfl) _).mono ?_; rintro e w' ⟨rfl, rfl⟩
      go_wp2_with fail
      refine (impl_digitsC s HS.out HP.out _ (by rfl) _).mono ?_; rintro e w' ⟨rfl, rfl⟩
      go_wp2_with fail
      refine (impl_wholeA s HS.out _ (by rw [HA.out]) _).mono ?_; rintro e w' ⟨rfl, rfl⟩
      go_wp2_with fail
      refine (impl_fracA s HS.out _ (.inl ⟨HP.out, rfl⟩) _).mono ?_; rintro e w' ⟨rfl, rfl⟩
      go_wp2_with fail
      go_ret2
      exact ⟨tupI HR.out.1.symm HR.out.2.symm, rfl⟩
    · have hn : rNo s = false := by simp [rNo, hF, hA]; omega
      have hr := rd_pos hn hN
      rw [if_neg hm] at hr
      have hm2 : wV s + fV s ≤ 9000000000000 := by omega
      have q1 : ((rB s : Int) == (rA0 s : Int) + 1) = true := by simp; omega
      have q3 : (s.extract (rB s + 1) (rC s)).toList.isEmpty = false := by rw [hem]; simp; omega
      have HR := Lib.hid hr; clear hr
      have HA := Lib.hid hA; clear hA
      clear hN hF hem
      clear hq2 hq
      go_enter Tryz.func165, Tryz.ntmps165
      go_wp2_with fail
      refine (impl_space0 s HS.out _).mono ?_; rintro e w' ⟨rfl, rfl⟩
      go_wp2_with fail
      refine (impl_digitsB s HS.out _ (by rw [HA.out]; try rfl) _).mono ?_; rintro e w' ⟨rfl, rfl⟩
      go_wp2_with fail
      refine (impl_digitsC s HS.out HP.out _ (by rfl) _).mono ?_; rintro e w' ⟨rfl, rfl⟩
      go_wp2_with fail
      refine (impl_wholeA s HS.out _ (by rw [HA.out]) _).mono ?_; rintro e w' ⟨rfl, rfl⟩
      go_wp2_with fail
      refine (impl_fracA s HS.out _ (.inl ⟨HP.out, rfl⟩) _).mono ?_; rintro e w' ⟨rfl, rfl⟩
      go_wp2_with fail
      go_ret2
      exact ⟨tupI HR.out.1.symm HR.out.2.symm, rfl⟩
  · by_cases hm : 9000000000000 < wV s + fV s
    · have hn : rNo s = false := by simp [rNo, hF, hA]; omega
      have hr := rd_pos hn hN
      rw [if_pos hm] at hr
      have q1 : ((rB s : Int) == (rA0 s : Int) + 1) = false := by simp; omega
      have HR := Lib.hid hr; clear hr
      have HA := Lib.hid hA; clear hA
      clear hN hF hem
      clear hq2 hq
      go_enter Tryz.func165, Tryz.ntmps165
      go_wp2_with fail
      refine (impl_space0 s HS.out _).mono ?_; rintro e w' ⟨rfl, rfl⟩
      go_wp2_with fail
      refine (impl_digitsB s HS.out _ (by rw [HA.out]; try rfl) _).mono ?_; rintro e w' ⟨rfl, rfl⟩
      go_wp2_with fail
      refine (impl_digitsC s HS.out HP.out _ (by rfl) _).mono ?_; rintro e w' ⟨rfl, rfl⟩
      go_wp2_with fail
      refine (impl_wholeA s HS.out _ (by rw [HA.out]) _).mono ?_; rintro e w' ⟨rfl, rfl⟩
      go_wp2_with fail
      refine (impl_fracA s HS.out _ (.inl ⟨HP.out, rfl⟩) _).mono ?_; rintro e w' ⟨rfl, rfl⟩
      go_wp2_with fail
      go_ret2
      exact ⟨tupI HR.out.1.symm HR.out.2.symm, rfl⟩
    · have hn : rNo s = false := by simp [rNo, hF, hA]; omega
      have hr := rd_pos hn hN
      rw [if_neg hm] at hr
      have hm2 : wV s + fV s ≤ 9000000000000 := by omega
      have q1 : ((rB s : Int) == (rA0 s : Int) + 1) = false := by simp; omega
      have HR := Lib.hid hr; clear hr
      have HA := Lib.hid hA; clear hA
      clear hN hF hem
      clear hq2 hq
      go_enter Tryz.func165, Tryz.ntmps165
      go_wp2_with fail
      refine (impl_space0 s HS.out _).mono ?_; rintro e w' ⟨rfl, rfl⟩
      go_wp2_with fail
      refine (impl_digitsB s HS.out _ (by rw [HA.out]; try rfl) _).mono ?_; rintro e w' ⟨rfl, rfl⟩
      go_wp2_with fail
      refine (impl_digitsC s HS.out HP.out _ (by rfl) _).mono ?_; rintro e w' ⟨rfl, rfl⟩
      go_wp2_with fail
      refine (impl_wholeA s HS.out _ (by rw [HA.out]) _).mono ?_; rintro e w' ⟨rfl, rfl⟩
      go_wp2_with fail
      refine (impl_fracA s HS.out _ (.inl ⟨HP.out, rfl⟩) _).mono ?_; rintro e w' ⟨rfl, rfl⟩
      go_wp2_with fail
      go_ret2
      exact ⟨tupI HR.out.1.symm HR.out.2.symm, rfl⟩

set_option maxHeartbeats 1000000 in
theorem impl_read_plusEnd (s : ByteArray) (hs : s.size ≤ maxLen) (hlt : rA0 s < s.size) (h45 : (bt s (rA0 s) == 45) = false) (h43 : (bt s (rA0 s) == 43) = true) (hy : decide (rB s < s.size) = false) (w : World) :
    Calls Tryz.prog 165 #[.string s] w fun e w' => e = .returned (.tuple #[.int .i64 (rdN s), .int .i64 (rdK s)]) ∧ w = w' := by
  have HS := Lib.hid hs
  unfold maxLen at hs
  have hb := get_bt s
  have hA : rA1 s = rA0 s + 1 := by simp [rA1, rSgn, hlt, h43]
  have hN : rNeg s = false := by simp [rNeg, h45]
  have b1 := rB_le s
  have hAB : rA0 s + 1 ≤ rB s := by omega
  have hABi : (rA0 s : Int) + 1 ≤ (rB s : Int) := by omega
  have b2 := rC_le s
  have bw := wV_bd s
  have bf := fV_bd s
  have hp : rPt s = false := by simp [rPt, hy]
  have hC : rC s = rB s := by rw [rC, hp]; rfl
  have hF : rF s = 0 := by rw [rF, hp]; rfl
  have HP := Lib.hid hp; clear hp
  have hbl : s.size ≤ rB s := by simpa using hy
  by_cases hq : rB s = rA0 s + 1
  · have hr := rd_no (s := s) (by simp [rNo, hF, hA, hq])
    have q1 : ((rB s : Int) == (rA0 s : Int) + 1) = true := by simp; omega
    have HR := Lib.hid hr; clear hr
    have HA := Lib.hid hA; clear hA
    clear hN hF hC
    clear hq
    go_enter Tryz.func165, Tryz.ntmps165
    go_wp2_with fail
    refine (impl_space0 s HS.out _).mono ?_; rintro e w' ⟨rfl, rfl⟩
    go_wp2_with fail
    refine (impl_digitsB s HS.out _ (by rw [HA.out]; try rfl) _).mono ?_; rintro e w' ⟨rfl, rfl⟩
    go_wp2_with fail
    go_ret2
    exact ⟨tupI HR.out.1.symm HR.out.2.symm, rfl⟩
  · by_cases hm : 9000000000000 < wV s + fV s
    · have hn : rNo s = false := by simp [rNo, hF, hA]; omega
      have hr := rd_pos hn hN
      rw [if_pos hm, hC] at hr
      have q1 : ((rB s : Int) == (rA0 s : Int) + 1) = false := by simp; omega
      have HR := Lib.hid hr; clear hr
      have HA := Lib.hid hA; clear hA
      clear hN hF hC
      clear hq
      go_enter Tryz.func165, Tryz.ntmps165
      go_wp2_with fail
      refine (impl_space0 s HS.out _).mono ?_; rintro e w' ⟨rfl, rfl⟩
      go_wp2_with fail
      refine (impl_digitsB s HS.out _ (by rw [HA.out]; try rfl) _).mono ?_; rintro e w' ⟨rfl, rfl⟩
      go_wp2_with fail
      refine (impl_wholeA s HS.out _ (by rw [HA.out]) _).mono ?_; rintro e w' ⟨rfl, rfl⟩
      go_wp2_with fail
      refine (impl_fracA s HS.out _ (.inr ⟨HP.out, rfl⟩) _).mono ?_; rintro e w' ⟨rfl, rfl⟩
      go_wp2_with fail
      go_ret2
      exact ⟨tupI HR.out.1.symm HR.out.2.symm, rfl⟩
    · have hn : rNo s = false := by simp [rNo, hF, hA]; omega
      have hr := rd_pos hn hN
      rw [if_neg hm, hC] at hr
      have hm2 : wV s + fV s ≤ 9000000000000 := by omega
      have q1 : ((rB s : Int) == (rA0 s : Int) + 1) = false := by simp; omega
      have HR := Lib.hid hr; clear hr
      have HA := Lib.hid hA; clear hA
      clear hN hF hC
      clear hq
      go_enter Tryz.func165, Tryz.ntmps165
      go_wp2_with fail
      refine (impl_space0 s HS.out _).mono ?_; rintro e w' ⟨rfl, rfl⟩
      go_wp2_with fail
      refine (impl_digitsB s HS.out _ (by rw [HA.out]; try rfl) _).mono ?_; rintro e w' ⟨rfl, rfl⟩
      go_wp2_with fail
      refine (impl_wholeA s HS.out _ (by rw [HA.out]) _).mono ?_; rintro e w' ⟨rfl, rfl⟩
      go_wp2_with fail
      refine (impl_fracA s HS.out _ (.inr ⟨HP.out, rfl⟩) _).mono ?_; rintro e w' ⟨rfl, rfl⟩
      go_wp2_with fail
      go_ret2
      exact ⟨tupI HR.out.1.symm HR.out.2.symm, rfl⟩

set_option maxHeartbeats 1000000 in
theorem impl_read_plusOther (s : ByteArray) (hs : s.size ≤ maxLen) (hlt : rA0 s < s.size) (h45 : (bt s (rA0 s) == 45) = false) (h43 : (bt s (rA0 s) == 43) = true) (hbl : rB s < s.size) (h46 : (bt s (rB s) == 46) = false) (w : World) :
    Calls Tryz.prog 165 #[.string s] w fun e w' => e = .returned (.tuple #[.int .i64 (rdN s), .int .i64 (rdK s)]) ∧ w = w' := by
  have HS := Lib.hid hs
  unfold maxLen at hs
  have hb := get_bt s
  have hA : rA1 s = rA0 s + 1 := by simp [rA1, rSgn, hlt, h43]
  have hN : rNeg s = false := by simp [rNeg, h45]
  have b1 := rB_le s
  have hAB : rA0 s + 1 ≤ rB s := by omega
  have hABi : (rA0 s : Int) + 1 ≤ (rB s : Int) := by omega
  have b2 := rC_le s
  have bw := wV_bd s
  have bf := fV_bd s
  have hp : rPt s = false := by simp [rPt, h46]
  have hC : rC s = rB s := by rw [rC, hp]; rfl
  have hF : rF s = 0 := by rw [rF, hp]; rfl
  have HP := Lib.hid hp; clear hp
  by_cases hq : rB s = rA0 s + 1
  · have hr := rd_no (s := s) (by simp [rNo, hF, hA, hq])
    have q1 : ((rB s : Int) == (rA0 s : Int) + 1) = true := by simp; omega
    have HR := Lib.hid hr; clear hr
    have HA := Lib.hid hA; clear hA
    clear hN hF hC
    clear hq
    go_enter Tryz.func165, Tryz.ntmps165
    go_wp2_with fail
    refine (impl_space0 s HS.out _).mono ?_; rintro e w' ⟨rfl, rfl⟩
    go_wp2_with fail
    refine (impl_digitsB s HS.out _ (by rw [HA.out]; try rfl) _).mono ?_; rintro e w' ⟨rfl, rfl⟩
    go_wp2_with fail
    go_ret2
    exact ⟨tupI HR.out.1.symm HR.out.2.symm, rfl⟩
  · by_cases hm : 9000000000000 < wV s + fV s
    · have hn : rNo s = false := by simp [rNo, hF, hA]; omega
      have hr := rd_pos hn hN
      rw [if_pos hm, hC] at hr
      have q1 : ((rB s : Int) == (rA0 s : Int) + 1) = false := by simp; omega
      have HR := Lib.hid hr; clear hr
      have HA := Lib.hid hA; clear hA
      clear hN hF hC
      clear hq
      go_enter Tryz.func165, Tryz.ntmps165
      go_wp2_with fail
      refine (impl_space0 s HS.out _).mono ?_; rintro e w' ⟨rfl, rfl⟩
      go_wp2_with fail
      refine (impl_digitsB s HS.out _ (by rw [HA.out]; try rfl) _).mono ?_; rintro e w' ⟨rfl, rfl⟩
      go_wp2_with fail
      refine (impl_wholeA s HS.out _ (by rw [HA.out]) _).mono ?_; rintro e w' ⟨rfl, rfl⟩
      go_wp2_with fail
      refine (impl_fracA s HS.out _ (.inr ⟨HP.out, rfl⟩) _).mono ?_; rintro e w' ⟨rfl, rfl⟩
      go_wp2_with fail
      go_ret2
      exact ⟨tupI HR.out.1.symm HR.out.2.symm, rfl⟩
    · have hn : rNo s = false := by simp [rNo, hF, hA]; omega
      have hr := rd_pos hn hN
      rw [if_neg hm, hC] at hr
      have hm2 : wV s + fV s ≤ 9000000000000 := by omega
      have q1 : ((rB s : Int) == (rA0 s : Int) + 1) = false := by simp; omega
      have HR := Lib.hid hr; clear hr
      have HA := Lib.hid hA; clear hA
      clear hN hF hC
      clear hq
      go_enter Tryz.func165, Tryz.ntmps165
      go_wp2_with fail
      refine (impl_space0 s HS.out _).mono ?_; rintro e w' ⟨rfl, rfl⟩
      go_wp2_with fail
      refine (impl_digitsB s HS.out _ (by rw [HA.out]; try rfl) _).mono ?_; rintro e w' ⟨rfl, rfl⟩
      go_wp2_with fail
      refine (impl_wholeA s HS.out _ (by rw [HA.out]) _).mono ?_; rintro e w' ⟨rfl, rfl⟩
      go_wp2_with fail
      refine (impl_fracA s HS.out _ (.inr ⟨HP.out, rfl⟩) _).mono ?_; rintro e w' ⟨rfl, rfl⟩
      go_wp2_with fail
      go_ret2
      exact ⟨tupI HR.out.1.symm HR.out.2.symm, rfl⟩

theorem impl_readDec (s : ByteArray) (hs : s.size ≤ maxLen) (w : World) :
    Calls Tryz.prog 165 #[.string s] w fun e w' => e = .returned (.tuple #[.int .i64 (rdN s), .int .i64 (rdK s)]) ∧ w = w' := by
  by_cases hx : rA0 s < s.size
  · by_cases h45 : (bt s (rA0 s) == 45) = true
    · by_cases hp : rPt s = true
      · exact impl_read_minusYes s hs hx h45 hp w
      · by_cases hy : rB s < s.size
        · exact impl_read_minusOther s hs hx h45 hy (by simpa [rPt, hy] using hp) w
        · exact impl_read_minusEnd s hs hx h45 (by simpa using hy) w
    · have h45' := no_eq h45
      by_cases h43 : (bt s (rA0 s) == 43) = true
      · by_cases hp : rPt s = true
        · exact impl_read_plusYes s hs hx h45' h43 hp w
        · by_cases hy : rB s < s.size
          · exact impl_read_plusOther s hs hx h45' h43 hy (by simpa [rPt, hy] using hp) w
          · exact impl_read_plusEnd s hs hx h45' h43 (by simpa using hy) w
      · have h43' := no_eq h43
        by_cases hp : rPt s = true
        · exact impl_read_otherYes s hs hx h45' h43' hp w
        · by_cases hy : rB s < s.size
          · exact impl_read_otherOther s hs hx h45' h43' hy (by simpa [rPt, hy] using hp) w
          · exact impl_read_otherEnd s hs hx h45' h43' (by simpa using hy) w
  · have hx' : decide (rA0 s < s.size) = false := by simpa using hx
    have hy : s.size ≤ rB s := by
      have h1 := (rB_le s).1
      have h2 : rA0 s ≤ rA1 s := by unfold rA1; split <;> omega
      omega
    exact impl_read_endEnd s hs hx' (by simpa using hy) w

end Go.Proofs.YthaedmldlenhgaaGreatDoor.Dec
