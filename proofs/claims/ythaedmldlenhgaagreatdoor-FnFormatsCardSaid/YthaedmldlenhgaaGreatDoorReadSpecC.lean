/-
  What ReadDec of the model returns, way by way: how the number begins, whether there is a point, whether it is too great.
-/
import Derived.Test.YthaedmldlenhgaaGreatDoorReadSpecA
import Derived.WalkSpells
namespace Go.Proofs.YthaedmldlenhgaaGreatDoor.Dec
open Go.ChangeShapes Go.WideShapes Go.ChangeAt Go.RowKit Go.PlainAid
open Go.Proofs.YthaedmldlenhgaaGreatDoor.DecPure Go.Proofs.YthaedmldlenhgaaGreatDoor.ReadPure
set_option linter.unusedVariables false

set_option maxHeartbeats 1000000 in
theorem spec_read_plusEndNo (s : ByteArray) (hs : s.size ≤ maxLen) (hlt : rA0 s < s.size) (h45 : (bt s (rA0 s) == 45) = false) (h43 : (bt s (rA0 s) == 43) = true) (hy : decide (rB s < s.size) = false) (hq : rB s = rA1 s) (w : World) :
    Calls Tryz.prog 64 #[.string s] w fun e w' => e = .returned (.tuple #[.int .i64 (rdN s), .int .i64 (rdK s)]) ∧ w = w' := by
  have HS := Lib.hid hs
  unfold maxLen at hs
  have hb := get_bt s
  have hA : rA1 s = rA0 s + 1 := by simp [rA1, rSgn, hlt, h43]
  have hN : rNeg s = false := by simp [rNeg, h45]
  have b1 := rB_le s
  have b2 := rC_le s
  have bs := satV_bd s
  have bf := fV_bd s
  have hp : rPt s = false := by simp [rPt, hy]
  have hC : rC s = rB s := by rw [rC, hp]; rfl
  have hF : rF s = 0 := by rw [rF, hp]; rfl
  have hz := fV_none hF
  have hbl : s.size ≤ rB s := by simpa using hy
  have hr := rd_no (s := s) (by simp [rNo, hF, hq])
  have HR := Lib.hid hr; clear hr
  have HA := Lib.hid hA; clear hA hN hF hC hp hz
  have HQ := Lib.hid hq; clear hq
  go_enter Tryz.func64, Tryz.ntmps64
  go_wp2_with fail
  refine (spec_skip0 s HS.out _).mono ?_; rintro e w' ⟨rfl, rfl⟩
  go_wp2_with fail
  go_loop [4, 6, 7] (fun i n d => ∃ j : Nat, rA1 s ≤ j ∧ j ≤ rB s ∧ i = .int .i64 j ∧ n = .int .i64 (satS (valF s (rA1 s) (j - rA1 s))) ∧ d = .int .i64 ((j : Int) - (rA1 s : Int))) (fun i _ _ => s.size - (intOf i).toNat)
  case atStart => exact ⟨rA1 s, Nat.le_refl _, b1.1, by rw [HA.out]; try rfl, by rw [Nat.sub_self]; rfl, by go_num⟩
  case round =>
    obtain ⟨j, hj1, hj2, rfl, rfl, rfl⟩ := hrel
    by_cases hjb : j < rB s
    · obtain ⟨hjs, hjd⟩ := rdig hj1 hjb
      have hv0 := valF_nn ((rDigs s).less (m := j - rA1 s) (by omega))
      have hs0 := satS_bd hv0
      have hd0 := dgB_yes hjd
      have hnx := valF_next s (rA1 s) j hj1
      by_cases hbig : 9000000000000 < satS (valF s (rA1 s) (j - rA1 s)) * 10 + (bt s j - 48) * 1000000
      · have hst : satS (valF s (rA1 s) (j + 1 - rA1 s)) = 9000000000001 := by rw [hnx]; exact satS_big hv0 (by omega) hbig
        have HST := Lib.hid hst; clear hst hnx
        have HJD := Lib.hid hjd; clear hjd
        go_wp2_with (go_at_call 66; refine (spec_digitT _ HJD.out _).mono ?_; rintro e w' ⟨rfl, rfl⟩)
        go_round
        case rel => exact ⟨j + 1, by omega, by omega, by go_num, by rw [HST.out], by go_num⟩
        case measure => simp [intOf]; omega
      · have hst : satS (valF s (rA1 s) (j + 1 - rA1 s)) = satS (valF s (rA1 s) (j - rA1 s)) * 10 + (bt s j - 48) * 1000000 := by rw [hnx]; exact satS_small hv0 (by omega) hbig
        have HST := Lib.hid hst; clear hst hnx
        have HJD := Lib.hid hjd; clear hjd
        go_wp2_with (go_at_call 66; refine (spec_digitT _ HJD.out _).mono ?_; rintro e w' ⟨rfl, rfl⟩)
        go_round
        case rel => exact ⟨j + 1, by omega, by omega, by go_num, by rw [HST.out], by go_num⟩
        case measure => simp [intOf]; omega
    · have hjb2 : j = rB s := by omega
      clear hjb hj2
      subst hjb2
      have hsv : satS (valF s (rA1 s) (rB s - rA1 s)) = satV s := rfl
      have h0 : ((rB s : Int) - (rA1 s : Int) == 0) = true := by have := HQ.out; simp; omega
      clear hsv
      go_wp2_with fail
      go_ret2
      exact ⟨tupI HR.out.1.symm HR.out.2.symm, rfl⟩

set_option maxHeartbeats 1000000 in
theorem spec_read_plusEndNumBig (s : ByteArray) (hs : s.size ≤ maxLen) (hlt : rA0 s < s.size) (h45 : (bt s (rA0 s) == 45) = false) (h43 : (bt s (rA0 s) == 43) = true) (hy : decide (rB s < s.size) = false) (hq : rA1 s < rB s) (hm : 9000000000000 < satV s) (w : World) :
    Calls Tryz.prog 64 #[.string s] w fun e w' => e = .returned (.tuple #[.int .i64 (rdN s), .int .i64 (rdK s)]) ∧ w = w' := by
  have HS := Lib.hid hs
  unfold maxLen at hs
  have hb := get_bt s
  have hA : rA1 s = rA0 s + 1 := by simp [rA1, rSgn, hlt, h43]
  have hN : rNeg s = false := by simp [rNeg, h45]
  have b1 := rB_le s
  have b2 := rC_le s
  have bs := satV_bd s
  have bf := fV_bd s
  have hp : rPt s = false := by simp [rPt, hy]
  have hC : rC s = rB s := by rw [rC, hp]; rfl
  have hF : rF s = 0 := by rw [rF, hp]; rfl
  have hz := fV_none hF
  have hbl : s.size ≤ rB s := by simpa using hy
  have hn : rNo s = false := by simp [rNo, hF]; omega
  have hr := rs_pos hn hN
  rw [hz, Int.add_zero, if_pos hm, hC] at hr
  have HR := Lib.hid hr; clear hr
  have HA := Lib.hid hA; clear hA hN hF hC hp hz hn
  go_enter Tryz.func64, Tryz.ntmps64
  go_wp2_with fail
  refine (spec_skip0 s HS.out _).mono ?_; rintro e w' ⟨rfl, rfl⟩
  go_wp2_with fail
  go_loop [4, 6, 7] (fun i n d => ∃ j : Nat, rA1 s ≤ j ∧ j ≤ rB s ∧ i = .int .i64 j ∧ n = .int .i64 (satS (valF s (rA1 s) (j - rA1 s))) ∧ d = .int .i64 ((j : Int) - (rA1 s : Int))) (fun i _ _ => s.size - (intOf i).toNat)
  case atStart => exact ⟨rA1 s, Nat.le_refl _, b1.1, by rw [HA.out]; try rfl, by rw [Nat.sub_self]; rfl, by go_num⟩
  case round =>
    obtain ⟨j, hj1, hj2, rfl, rfl, rfl⟩ := hrel
    by_cases hjb : j < rB s
    · obtain ⟨hjs, hjd⟩ := rdig hj1 hjb
      have hv0 := valF_nn ((rDigs s).less (m := j - rA1 s) (by omega))
      have hs0 := satS_bd hv0
      have hd0 := dgB_yes hjd
      have hnx := valF_next s (rA1 s) j hj1
      by_cases hbig : 9000000000000 < satS (valF s (rA1 s) (j - rA1 s)) * 10 + (bt s j - 48) * 1000000
      · have hst : satS (valF s (rA1 s) (j + 1 - rA1 s)) = 9000000000001 := by rw [hnx]; exact satS_big hv0 (by omega) hbig
        have HST := Lib.hid hst; clear hst hnx
        have HJD := Lib.hid hjd; clear hjd
        go_wp2_with (go_at_call 66; refine (spec_digitT _ HJD.out _).mono ?_; rintro e w' ⟨rfl, rfl⟩)
        go_round
        case rel => exact ⟨j + 1, by omega, by omega, by go_num, by rw [HST.out], by go_num⟩
        case measure => simp [intOf]; omega
      · have hst : satS (valF s (rA1 s) (j + 1 - rA1 s)) = satS (valF s (rA1 s) (j - rA1 s)) * 10 + (bt s j - 48) * 1000000 := by rw [hnx]; exact satS_small hv0 (by omega) hbig
        have HST := Lib.hid hst; clear hst hnx
        have HJD := Lib.hid hjd; clear hjd
        go_wp2_with (go_at_call 66; refine (spec_digitT _ HJD.out _).mono ?_; rintro e w' ⟨rfl, rfl⟩)
        go_round
        case rel => exact ⟨j + 1, by omega, by omega, by go_num, by rw [HST.out], by go_num⟩
        case measure => simp [intOf]; omega
    · have hjb2 : j = rB s := by omega
      clear hjb hj2
      subst hjb2
      have hsv : satS (valF s (rA1 s) (rB s - rA1 s)) = satV s := rfl
      have h0 : ((rB s : Int) - (rA1 s : Int) == 0) = false := by simp; omega
      have h1 : decide ((0 : Int) < (rB s : Int) - (rA1 s : Int)) = true := by simp; omega
      go_wp2_with fail
      go_ret2
      exact ⟨tupI HR.out.1.symm HR.out.2.symm, rfl⟩

set_option maxHeartbeats 1000000 in
theorem spec_read_plusEndNum (s : ByteArray) (hs : s.size ≤ maxLen) (hlt : rA0 s < s.size) (h45 : (bt s (rA0 s) == 45) = false) (h43 : (bt s (rA0 s) == 43) = true) (hy : decide (rB s < s.size) = false) (hq : rA1 s < rB s) (hm : ¬ 9000000000000 < satV s) (w : World) :
    Calls Tryz.prog 64 #[.string s] w fun e w' => e = .returned (.tuple #[.int .i64 (rdN s), .int .i64 (rdK s)]) ∧ w = w' := by
  have HS := Lib.hid hs
  unfold maxLen at hs
  have hb := get_bt s
  have hA : rA1 s = rA0 s + 1 := by simp [rA1, rSgn, hlt, h43]
  have hN : rNeg s = false := by simp [rNeg, h45]
  have b1 := rB_le s
  have b2 := rC_le s
  have bs := satV_bd s
  have bf := fV_bd s
  have hp : rPt s = false := by simp [rPt, hy]
  have hC : rC s = rB s := by rw [rC, hp]; rfl
  have hF : rF s = 0 := by rw [rF, hp]; rfl
  have hz := fV_none hF
  have hbl : s.size ≤ rB s := by simpa using hy
  have hn : rNo s = false := by simp [rNo, hF]; omega
  have hr := rs_pos hn hN
  rw [hz, Int.add_zero, if_neg hm, hC] at hr
  have hm2 : satV s ≤ 9000000000000 := by omega
  have HR := Lib.hid hr; clear hr
  have HA := Lib.hid hA; clear hA hN hF hC hp hz hn
  go_enter Tryz.func64, Tryz.ntmps64
  go_wp2_with fail
  refine (spec_skip0 s HS.out _).mono ?_; rintro e w' ⟨rfl, rfl⟩
  go_wp2_with fail
  go_loop [4, 6, 7] (fun i n d => ∃ j : Nat, rA1 s ≤ j ∧ j ≤ rB s ∧ i = .int .i64 j ∧ n = .int .i64 (satS (valF s (rA1 s) (j - rA1 s))) ∧ d = .int .i64 ((j : Int) - (rA1 s : Int))) (fun i _ _ => s.size - (intOf i).toNat)
  case atStart => exact ⟨rA1 s, Nat.le_refl _, b1.1, by rw [HA.out]; try rfl, by rw [Nat.sub_self]; rfl, by go_num⟩
  case round =>
    obtain ⟨j, hj1, hj2, rfl, rfl, rfl⟩ := hrel
    by_cases hjb : j < rB s
    · obtain ⟨hjs, hjd⟩ := rdig hj1 hjb
      have hv0 := valF_nn ((rDigs s).less (m := j - rA1 s) (by omega))
      have hs0 := satS_bd hv0
      have hd0 := dgB_yes hjd
      have hnx := valF_next s (rA1 s) j hj1
      by_cases hbig : 9000000000000 < satS (valF s (rA1 s) (j - rA1 s)) * 10 + (bt s j - 48) * 1000000
      · have hst : satS (valF s (rA1 s) (j + 1 - rA1 s)) = 9000000000001 := by rw [hnx]; exact satS_big hv0 (by omega) hbig
        have HST := Lib.hid hst; clear hst hnx
        have HJD := Lib.hid hjd; clear hjd
        go_wp2_with (go_at_call 66; refine (spec_digitT _ HJD.out _).mono ?_; rintro e w' ⟨rfl, rfl⟩)
        go_round
        case rel => exact ⟨j + 1, by omega, by omega, by go_num, by rw [HST.out], by go_num⟩
        case measure => simp [intOf]; omega
      · have hst : satS (valF s (rA1 s) (j + 1 - rA1 s)) = satS (valF s (rA1 s) (j - rA1 s)) * 10 + (bt s j - 48) * 1000000 := by rw [hnx]; exact satS_small hv0 (by omega) hbig
        have HST := Lib.hid hst; clear hst hnx
        have HJD := Lib.hid hjd; clear hjd
        go_wp2_with (go_at_call 66; refine (spec_digitT _ HJD.out _).mono ?_; rintro e w' ⟨rfl, rfl⟩)
        go_round
        case rel => exact ⟨j + 1, by omega, by omega, by go_num, by rw [HST.out], by go_num⟩
        case measure => simp [intOf]; omega
    · have hjb2 : j = rB s := by omega
      clear hjb hj2
      subst hjb2
      have hsv : satS (valF s (rA1 s) (rB s - rA1 s)) = satV s := rfl
      have h0 : ((rB s : Int) - (rA1 s : Int) == 0) = false := by simp; omega
      have h1 : decide ((0 : Int) < (rB s : Int) - (rA1 s : Int)) = true := by simp; omega
      go_wp2_with fail
      go_ret2
      exact ⟨tupI HR.out.1.symm HR.out.2.symm, rfl⟩

set_option maxHeartbeats 1000000 in
theorem spec_read_plusOtherNo (s : ByteArray) (hs : s.size ≤ maxLen) (hlt : rA0 s < s.size) (h45 : (bt s (rA0 s) == 45) = false) (h43 : (bt s (rA0 s) == 43) = true) (hbl : rB s < s.size) (h46 : (bt s (rB s) == 46) = false) (hq : rB s = rA1 s) (w : World) :
    Calls Tryz.prog 64 #[.string s] w fun e w' => e = .returned (.tuple #[.int .i64 (rdN s), .int .i64 (rdK s)]) ∧ w = w' := by
  have HS := Lib.hid hs
  unfold maxLen at hs
  have hb := get_bt s
  have hA : rA1 s = rA0 s + 1 := by simp [rA1, rSgn, hlt, h43]
  have hN : rNeg s = false := by simp [rNeg, h45]
  have b1 := rB_le s
  have b2 := rC_le s
  have bs := satV_bd s
  have bf := fV_bd s
  have hp : rPt s = false := by simp [rPt, h46]
  have hC : rC s = rB s := by rw [rC, hp]; rfl
  have hF : rF s = 0 := by rw [rF, hp]; rfl
  have hz := fV_none hF
  have hdg := rB_out hbl
  have hr := rd_no (s := s) (by simp [rNo, hF, hq])
  have HR := Lib.hid hr; clear hr
  have HA := Lib.hid hA; clear hA hN hF hC hp hz
  have HQ := Lib.hid hq; clear hq
  go_enter Tryz.func64, Tryz.ntmps64
  go_wp2_with fail
  refine (spec_skip0 s HS.out _).mono ?_; rintro e w' ⟨rfl, rfl⟩
  go_wp2_with fail
  go_loop [4, 6, 7] (fun i n d => ∃ j : Nat, rA1 s ≤ j ∧ j ≤ rB s ∧ i = .int .i64 j ∧ n = .int .i64 (satS (valF s (rA1 s) (j - rA1 s))) ∧ d = .int .i64 ((j : Int) - (rA1 s : Int))) (fun i _ _ => s.size - (intOf i).toNat)
  case atStart => exact ⟨rA1 s, Nat.le_refl _, b1.1, by rw [HA.out]; try rfl, by rw [Nat.sub_self]; rfl, by go_num⟩
  case round =>
    obtain ⟨j, hj1, hj2, rfl, rfl, rfl⟩ := hrel
    by_cases hjb : j < rB s
    · obtain ⟨hjs, hjd⟩ := rdig hj1 hjb
      have hv0 := valF_nn ((rDigs s).less (m := j - rA1 s) (by omega))
      have hs0 := satS_bd hv0
      have hd0 := dgB_yes hjd
      have hnx := valF_next s (rA1 s) j hj1
      by_cases hbig : 9000000000000 < satS (valF s (rA1 s) (j - rA1 s)) * 10 + (bt s j - 48) * 1000000
      · have hst : satS (valF s (rA1 s) (j + 1 - rA1 s)) = 9000000000001 := by rw [hnx]; exact satS_big hv0 (by omega) hbig
        have HST := Lib.hid hst; clear hst hnx
        have HJD := Lib.hid hjd; clear hjd
        go_wp2_with (go_at_call 66; refine (spec_digitT _ HJD.out _).mono ?_; rintro e w' ⟨rfl, rfl⟩)
        go_round
        case rel => exact ⟨j + 1, by omega, by omega, by go_num, by rw [HST.out], by go_num⟩
        case measure => simp [intOf]; omega
      · have hst : satS (valF s (rA1 s) (j + 1 - rA1 s)) = satS (valF s (rA1 s) (j - rA1 s)) * 10 + (bt s j - 48) * 1000000 := by rw [hnx]; exact satS_small hv0 (by omega) hbig
        have HST := Lib.hid hst; clear hst hnx
        have HJD := Lib.hid hjd; clear hjd
        go_wp2_with (go_at_call 66; refine (spec_digitT _ HJD.out _).mono ?_; rintro e w' ⟨rfl, rfl⟩)
        go_round
        case rel => exact ⟨j + 1, by omega, by omega, by go_num, by rw [HST.out], by go_num⟩
        case measure => simp [intOf]; omega
    · have hjb2 : j = rB s := by omega
      clear hjb hj2
      subst hjb2
      have hsv : satS (valF s (rA1 s) (rB s - rA1 s)) = satV s := rfl
      have h0 : ((rB s : Int) - (rA1 s : Int) == 0) = true := by have := HQ.out; simp; omega
      clear hsv
      go_wp2_with (go_at_call 66; refine (spec_digit _ (bt_nonneg _ _) (bt_le _ _) _).mono ?_; rintro e w' ⟨rfl, rfl⟩)
      go_ret2
      exact ⟨tupI HR.out.1.symm HR.out.2.symm, rfl⟩

set_option maxHeartbeats 1000000 in
theorem spec_read_plusOtherNumBig (s : ByteArray) (hs : s.size ≤ maxLen) (hlt : rA0 s < s.size) (h45 : (bt s (rA0 s) == 45) = false) (h43 : (bt s (rA0 s) == 43) = true) (hbl : rB s < s.size) (h46 : (bt s (rB s) == 46) = false) (hq : rA1 s < rB s) (hm : 9000000000000 < satV s) (w : World) :
    Calls Tryz.prog 64 #[.string s] w fun e w' => e = .returned (.tuple #[.int .i64 (rdN s), .int .i64 (rdK s)]) ∧ w = w' := by
  have HS := Lib.hid hs
  unfold maxLen at hs
  have hb := get_bt s
  have hA : rA1 s = rA0 s + 1 := by simp [rA1, rSgn, hlt, h43]
  have hN : rNeg s = false := by simp [rNeg, h45]
  have b1 := rB_le s
  have b2 := rC_le s
  have bs := satV_bd s
  have bf := fV_bd s
  have hp : rPt s = false := by simp [rPt, h46]
  have hC : rC s = rB s := by rw [rC, hp]; rfl
  have hF : rF s = 0 := by rw [rF, hp]; rfl
  have hz := fV_none hF
  have hdg := rB_out hbl
  have hn : rNo s = false := by simp [rNo, hF]; omega
  have hr := rs_pos hn hN
  rw [hz, Int.add_zero, if_pos hm, hC] at hr
  have HR := Lib.hid hr; clear hr
  have HA := Lib.hid hA; clear hA hN hF hC hp hz hn
  go_enter Tryz.func64, Tryz.ntmps64
  go_wp2_with fail
  refine (spec_skip0 s HS.out _).mono ?_; rintro e w' ⟨rfl, rfl⟩
  go_wp2_with fail
  go_loop [4, 6, 7] (fun i n d => ∃ j : Nat, rA1 s ≤ j ∧ j ≤ rB s ∧ i = .int .i64 j ∧ n = .int .i64 (satS (valF s (rA1 s) (j - rA1 s))) ∧ d = .int .i64 ((j : Int) - (rA1 s : Int))) (fun i _ _ => s.size - (intOf i).toNat)
  case atStart => exact ⟨rA1 s, Nat.le_refl _, b1.1, by rw [HA.out]; try rfl, by rw [Nat.sub_self]; rfl, by go_num⟩
  case round =>
    obtain ⟨j, hj1, hj2, rfl, rfl, rfl⟩ := hrel
    by_cases hjb : j < rB s
    · obtain ⟨hjs, hjd⟩ := rdig hj1 hjb
      have hv0 := valF_nn ((rDigs s).less (m := j - rA1 s) (by omega))
      have hs0 := satS_bd hv0
      have hd0 := dgB_yes hjd
      have hnx := valF_next s (rA1 s) j hj1
      by_cases hbig : 9000000000000 < satS (valF s (rA1 s) (j - rA1 s)) * 10 + (bt s j - 48) * 1000000
      · have hst : satS (valF s (rA1 s) (j + 1 - rA1 s)) = 9000000000001 := by rw [hnx]; exact satS_big hv0 (by omega) hbig
        have HST := Lib.hid hst; clear hst hnx
        have HJD := Lib.hid hjd; clear hjd
        go_wp2_with (go_at_call 66; refine (spec_digitT _ HJD.out _).mono ?_; rintro e w' ⟨rfl, rfl⟩)
        go_round
        case rel => exact ⟨j + 1, by omega, by omega, by go_num, by rw [HST.out], by go_num⟩
        case measure => simp [intOf]; omega
      · have hst : satS (valF s (rA1 s) (j + 1 - rA1 s)) = satS (valF s (rA1 s) (j - rA1 s)) * 10 + (bt s j - 48) * 1000000 := by rw [hnx]; exact satS_small hv0 (by omega) hbig
        have HST := Lib.hid hst; clear hst hnx
        have HJD := Lib.hid hjd; clear hjd
        go_wp2_with (go_at_call 66; refine (spec_digitT _ HJD.out _).mono ?_; rintro e w' ⟨rfl, rfl⟩)
        go_round
        case rel => exact ⟨j + 1, by omega, by omega, by go_num, by rw [HST.out], by go_num⟩
        case measure => simp [intOf]; omega
    · have hjb2 : j = rB s := by omega
      clear hjb hj2
      subst hjb2
      have hsv : satS (valF s (rA1 s) (rB s - rA1 s)) = satV s := rfl
      have h0 : ((rB s : Int) - (rA1 s : Int) == 0) = false := by simp; omega
      have h1 : decide ((0 : Int) < (rB s : Int) - (rA1 s : Int)) = true := by simp; omega
      go_wp2_with (go_at_call 66; refine (spec_digit _ (bt_nonneg _ _) (bt_le _ _) _).mono ?_; rintro e w' ⟨rfl, rfl⟩)
      go_ret2
      exact ⟨tupI HR.out.1.symm HR.out.2.symm, rfl⟩

set_option maxHeartbeats 1000000 in
theorem spec_read_plusOtherNum (s : ByteArray) (hs : s.size ≤ maxLen) (hlt : rA0 s < s.size) (h45 : (bt s (rA0 s) == 45) = false) (h43 : (bt s (rA0 s) == 43) = true) (hbl : rB s < s.size) (h46 : (bt s (rB s) == 46) = false) (hq : rA1 s < rB s) (hm : ¬ 9000000000000 < satV s) (w : World) :
    Calls Tryz.prog 64 #[.string s] w fun e w' => e = .returned (.tuple #[.int .i64 (rdN s), .int .i64 (rdK s)]) ∧ w = w' := by
  have HS := Lib.hid hs
  unfold maxLen at hs
  have hb := get_bt s
  have hA : rA1 s = rA0 s + 1 := by simp [rA1, rSgn, hlt, h43]
  have hN : rNeg s = false := by simp [rNeg, h45]
  have b1 := rB_le s
  have b2 := rC_le s
  have bs := satV_bd s
  have bf := fV_bd s
  have hp : rPt s = false := by simp [rPt, h46]
  have hC : rC s = rB s := by rw [rC, hp]; rfl
  have hF : rF s = 0 := by rw [rF, hp]; rfl
  have hz := fV_none hF
  have hdg := rB_out hbl
  have hn : rNo s = false := by simp [rNo, hF]; omega
  have hr := rs_pos hn hN
  rw [hz, Int.add_zero, if_neg hm, hC] at hr
  have hm2 : satV s ≤ 9000000000000 := by omega
  have HR := Lib.hid hr; clear hr
  have HA := Lib.hid hA; clear hA hN hF hC hp hz hn
  go_enter Tryz.func64, Tryz.ntmps64
  go_wp2_with fail
  refine (spec_skip0 s HS.out _).mono ?_; rintro e w' ⟨rfl, rfl⟩
  go_wp2_with fail
  go_loop [4, 6, 7] (fun i n d => ∃ j : Nat, rA1 s ≤ j ∧ j ≤ rB s ∧ i = .int .i64 j ∧ n = .int .i64 (satS (valF s (rA1 s) (j - rA1 s))) ∧ d = .int .i64 ((j : Int) - (rA1 s : Int))) (fun i _ _ => s.size - (intOf i).toNat)
  case atStart => exact ⟨rA1 s, Nat.le_refl _, b1.1, by rw [HA.out]; try rfl, by rw [Nat.sub_self]; rfl, by go_num⟩
  case round =>
    obtain ⟨j, hj1, hj2, rfl, rfl, rfl⟩ := hrel
    by_cases hjb : j < rB s
    · obtain ⟨hjs, hjd⟩ := rdig hj1 hjb
      have hv0 := valF_nn ((rDigs s).less (m := j - rA1 s) (by omega))
      have hs0 := satS_bd hv0
      have hd0 := dgB_yes hjd
      have hnx := valF_next s (rA1 s) j hj1
      by_cases hbig : 9000000000000 < satS (valF s (rA1 s) (j - rA1 s)) * 10 + (bt s j - 48) * 1000000
      · have hst : satS (valF s (rA1 s) (j + 1 - rA1 s)) = 9000000000001 := by rw [hnx]; exact satS_big hv0 (by omega) hbig
        have HST := Lib.hid hst; clear hst hnx
        have HJD := Lib.hid hjd; clear hjd
        go_wp2_with (go_at_call 66; refine (spec_digitT _ HJD.out _).mono ?_; rintro e w' ⟨rfl, rfl⟩)
        go_round
        case rel => exact ⟨j + 1, by omega, by omega, by go_num, by rw [HST.out], by go_num⟩
        case measure => simp [intOf]; omega
      · have hst : satS (valF s (rA1 s) (j + 1 - rA1 s)) = satS (valF s (rA1 s) (j - rA1 s)) * 10 + (bt s j - 48) * 1000000 := by rw [hnx]; exact satS_small hv0 (by omega) hbig
        have HST := Lib.hid hst; clear hst hnx
        have HJD := Lib.hid hjd; clear hjd
        go_wp2_with (go_at_call 66; refine (spec_digitT _ HJD.out _).mono ?_; rintro e w' ⟨rfl, rfl⟩)
        go_round
        case rel => exact ⟨j + 1, by omega, by omega, by go_num, by rw [HST.out], by go_num⟩
        case measure => simp [intOf]; omega
    · have hjb2 : j = rB s := by omega
      clear hjb hj2
      subst hjb2
      have hsv : satS (valF s (rA1 s) (rB s - rA1 s)) = satV s := rfl
      have h0 : ((rB s : Int) - (rA1 s : Int) == 0) = false := by simp; omega
      have h1 : decide ((0 : Int) < (rB s : Int) - (rA1 s : Int)) = true := by simp; omega
      go_wp2_with (go_at_call 66; refine (spec_digit _ (bt_nonneg _ _) (bt_le _ _) _).mono ?_; rintro e w' ⟨rfl, rfl⟩)
      go_ret2
      exact ⟨tupI HR.out.1.symm HR.out.2.symm, rfl⟩

set_option maxHeartbeats 1000000 in
theorem spec_read_plusYesNoEnd (s : ByteArray) (hs : s.size ≤ maxLen) (hlt : rA0 s < s.size) (h45 : (bt s (rA0 s) == 45) = false) (h43 : (bt s (rA0 s) == 43) = true) (hp : rPt s = true) (hq : rB s = rA1 s) (hq2 : rC s = rB s + 1) (hy : decide (rB s + 1 < s.size) = false) (w : World) :
    Calls Tryz.prog 64 #[.string s] w fun e w' => e = .returned (.tuple #[.int .i64 (rdN s), .int .i64 (rdK s)]) ∧ w = w' := by
  have HS := Lib.hid hs
  unfold maxLen at hs
  have hb := get_bt s
  have hA : rA1 s = rA0 s + 1 := by simp [rA1, rSgn, hlt, h43]
  have hN : rNeg s = false := by simp [rNeg, h45]
  have b1 := rB_le s
  have b2 := rC_le s
  have bs := satV_bd s
  have bf := fV_bd s
  have b3 := rPt_lt hp
  have b4 := rC_ge hp
  have h46 : (bt s (rB s) == 46) = true := by simp [rPt] at hp; simpa using hp.2
  have hF : rF s = rC s - (rB s + 1) := by rw [rF, if_pos hp]
  have hdg := rB_out b3
  have hy2 : s.size ≤ rB s + 1 := by simpa using hy
  have hy3 : decide ((rB s : Int) + 1 < (s.size : Int)) = false := by simp; omega
  have hr := rd_no (s := s) (by simp [rNo, hF, hq, hq2])
  have HR := Lib.hid hr; clear hr
  have HA := Lib.hid hA; clear hA hN hF hp
  have HQ := Lib.hid hq; clear hq hq2
  go_enter Tryz.func64, Tryz.ntmps64
  go_wp2_with fail
  refine (spec_skip0 s HS.out _).mono ?_; rintro e w' ⟨rfl, rfl⟩
  go_wp2_with fail
  go_loop [4, 6, 7] (fun i n d => ∃ j : Nat, rA1 s ≤ j ∧ j ≤ rB s ∧ i = .int .i64 j ∧ n = .int .i64 (satS (valF s (rA1 s) (j - rA1 s))) ∧ d = .int .i64 ((j : Int) - (rA1 s : Int))) (fun i _ _ => s.size - (intOf i).toNat)
  case atStart => exact ⟨rA1 s, Nat.le_refl _, b1.1, by rw [HA.out]; try rfl, by rw [Nat.sub_self]; rfl, by go_num⟩
  case round =>
    obtain ⟨j, hj1, hj2, rfl, rfl, rfl⟩ := hrel
    by_cases hjb : j < rB s
    · obtain ⟨hjs, hjd⟩ := rdig hj1 hjb
      have hv0 := valF_nn ((rDigs s).less (m := j - rA1 s) (by omega))
      have hs0 := satS_bd hv0
      have hd0 := dgB_yes hjd
      have hnx := valF_next s (rA1 s) j hj1
      by_cases hbig : 9000000000000 < satS (valF s (rA1 s) (j - rA1 s)) * 10 + (bt s j - 48) * 1000000
      · have hst : satS (valF s (rA1 s) (j + 1 - rA1 s)) = 9000000000001 := by rw [hnx]; exact satS_big hv0 (by omega) hbig
        have HST := Lib.hid hst; clear hst hnx
        have HJD := Lib.hid hjd; clear hjd
        go_wp2_with (go_at_call 66; refine (spec_digitT _ HJD.out _).mono ?_; rintro e w' ⟨rfl, rfl⟩)
        go_round
        case rel => exact ⟨j + 1, by omega, by omega, by go_num, by rw [HST.out], by go_num⟩
        case measure => simp [intOf]; omega
      · have hst : satS (valF s (rA1 s) (j + 1 - rA1 s)) = satS (valF s (rA1 s) (j - rA1 s)) * 10 + (bt s j - 48) * 1000000 := by rw [hnx]; exact satS_small hv0 (by omega) hbig
        have HST := Lib.hid hst; clear hst hnx
        have HJD := Lib.hid hjd; clear hjd
        go_wp2_with (go_at_call 66; refine (spec_digitT _ HJD.out _).mono ?_; rintro e w' ⟨rfl, rfl⟩)
        go_round
        case rel => exact ⟨j + 1, by omega, by omega, by go_num, by rw [HST.out], by go_num⟩
        case measure => simp [intOf]; omega
    · have hjb2 : j = rB s := by omega
      clear hjb hj2
      subst hjb2
      have hsv : satS (valF s (rA1 s) (rB s - rA1 s)) = satV s := rfl
      have h0 : ((rB s : Int) - (rA1 s : Int) == 0) = true := by have := HQ.out; simp; omega
      have h2 : rB s ≤ rA1 s := by have := HQ.out; omega
      have h1 : decide ((0 : Int) < (rB s : Int) - (rA1 s : Int)) = false := by simp; omega
      clear hsv
      go_wp2_with (go_at_call 66; refine (spec_digit _ (bt_nonneg _ _) (bt_le _ _) _).mono ?_; rintro e w' ⟨rfl, rfl⟩)
      go_ret2
      exact ⟨tupI HR.out.1.symm HR.out.2.symm, rfl⟩

set_option maxHeartbeats 1000000 in
theorem spec_read_plusYesNoOther (s : ByteArray) (hs : s.size ≤ maxLen) (hlt : rA0 s < s.size) (h45 : (bt s (rA0 s) == 45) = false) (h43 : (bt s (rA0 s) == 43) = true) (hp : rPt s = true) (hq : rB s = rA1 s) (hq2 : rC s = rB s + 1) (hy : rB s + 1 < s.size) (hdg2 : dgB (bt s (rB s + 1)) = false) (w : World) :
    Calls Tryz.prog 64 #[.string s] w fun e w' => e = .returned (.tuple #[.int .i64 (rdN s), .int .i64 (rdK s)]) ∧ w = w' := by
  have HS := Lib.hid hs
  unfold maxLen at hs
  have hb := get_bt s
  have hA : rA1 s = rA0 s + 1 := by simp [rA1, rSgn, hlt, h43]
  have hN : rNeg s = false := by simp [rNeg, h45]
  have b1 := rB_le s
  have b2 := rC_le s
  have bs := satV_bd s
  have bf := fV_bd s
  have b3 := rPt_lt hp
  have b4 := rC_ge hp
  have h46 : (bt s (rB s) == 46) = true := by simp [rPt] at hp; simpa using hp.2
  have hF : rF s = rC s - (rB s + 1) := by rw [rF, if_pos hp]
  have hdg := rB_out b3
  have hr := rd_no (s := s) (by simp [rNo, hF, hq, hq2])
  have HR := Lib.hid hr; clear hr
  have HA := Lib.hid hA; clear hA hN hF hp
  have HQ := Lib.hid hq; clear hq hq2
  go_enter Tryz.func64, Tryz.ntmps64
  go_wp2_with fail
  refine (spec_skip0 s HS.out _).mono ?_; rintro e w' ⟨rfl, rfl⟩
  go_wp2_with fail
  go_loop [4, 6, 7] (fun i n d => ∃ j : Nat, rA1 s ≤ j ∧ j ≤ rB s ∧ i = .int .i64 j ∧ n = .int .i64 (satS (valF s (rA1 s) (j - rA1 s))) ∧ d = .int .i64 ((j : Int) - (rA1 s : Int))) (fun i _ _ => s.size - (intOf i).toNat)
  case atStart => exact ⟨rA1 s, Nat.le_refl _, b1.1, by rw [HA.out]; try rfl, by rw [Nat.sub_self]; rfl, by go_num⟩
  case round =>
    obtain ⟨j, hj1, hj2, rfl, rfl, rfl⟩ := hrel
    by_cases hjb : j < rB s
    · obtain ⟨hjs, hjd⟩ := rdig hj1 hjb
      have hv0 := valF_nn ((rDigs s).less (m := j - rA1 s) (by omega))
      have hs0 := satS_bd hv0
      have hd0 := dgB_yes hjd
      have hnx := valF_next s (rA1 s) j hj1
      by_cases hbig : 9000000000000 < satS (valF s (rA1 s) (j - rA1 s)) * 10 + (bt s j - 48) * 1000000
      · have hst : satS (valF s (rA1 s) (j + 1 - rA1 s)) = 9000000000001 := by rw [hnx]; exact satS_big hv0 (by omega) hbig
        have HST := Lib.hid hst; clear hst hnx
        have HJD := Lib.hid hjd; clear hjd
        go_wp2_with (go_at_call 66; refine (spec_digitT _ HJD.out _).mono ?_; rintro e w' ⟨rfl, rfl⟩)
        go_round
        case rel => exact ⟨j + 1, by omega, by omega, by go_num, by rw [HST.out], by go_num⟩
        case measure => simp [intOf]; omega
      · have hst : satS (valF s (rA1 s) (j + 1 - rA1 s)) = satS (valF s (rA1 s) (j - rA1 s)) * 10 + (bt s j - 48) * 1000000 := by rw [hnx]; exact satS_small hv0 (by omega) hbig
        have HST := Lib.hid hst; clear hst hnx
        have HJD := Lib.hid hjd; clear hjd
        go_wp2_with (go_at_call 66; refine (spec_digitT _ HJD.out _).mono ?_; rintro e w' ⟨rfl, rfl⟩)
        go_round
        case rel => exact ⟨j + 1, by omega, by omega, by go_num, by rw [HST.out], by go_num⟩
        case measure => simp [intOf]; omega
    · have hjb2 : j = rB s := by omega
      clear hjb hj2
      subst hjb2
      have hsv : satS (valF s (rA1 s) (rB s - rA1 s)) = satV s := rfl
      have h0 : ((rB s : Int) - (rA1 s : Int) == 0) = true := by have := HQ.out; simp; omega
      have h2 : rB s ≤ rA1 s := by have := HQ.out; omega
      have h1 : decide ((0 : Int) < (rB s : Int) - (rA1 s : Int)) = false := by simp; omega
      clear hsv
      go_wp2_with (go_at_call 66; refine (spec_digit _ (bt_nonneg _ _) (bt_le _ _) _).mono ?_; rintro e w' ⟨rfl, rfl⟩)
      go_ret2
      exact ⟨tupI HR.out.1.symm HR.out.2.symm, rfl⟩

set_option maxHeartbeats 1000000 in
theorem spec_read_plusYesABig (s : ByteArray) (hs : s.size ≤ maxLen) (hlt : rA0 s < s.size) (h45 : (bt s (rA0 s) == 45) = false) (h43 : (bt s (rA0 s) == 43) = true) (hp : rPt s = true) (hq : rA1 s < rB s) (hm : 9000000000000 < satV s + fV s) (w : World) :
    Calls Tryz.prog 64 #[.string s] w fun e w' => e = .returned (.tuple #[.int .i64 (rdN s), .int .i64 (rdK s)]) ∧ w = w' := by
  have HS := Lib.hid hs
  unfold maxLen at hs
  have hb := get_bt s
  have hA : rA1 s = rA0 s + 1 := by simp [rA1, rSgn, hlt, h43]
  have hN : rNeg s = false := by simp [rNeg, h45]
  have b1 := rB_le s
  have b2 := rC_le s
  have bs := satV_bd s
  have bf := fV_bd s
  have b3 := rPt_lt hp
  have b4 := rC_ge hp
  have h46 : (bt s (rB s) == 46) = true := by simp [rPt] at hp; simpa using hp.2
  have hF : rF s = rC s - (rB s + 1) := by rw [rF, if_pos hp]
  have hdg := rB_out b3
  have hn : rNo s = false := by simp [rNo, hF]; omega
  have hr := rs_pos hn hN
  rw [if_pos hm] at hr
  have HR := Lib.hid hr; clear hr
  have HF := Lib.hid hF; clear hF
  have HP := Lib.hid hp; clear hp
  have HA := Lib.hid hA; clear hA hN hn
  go_enter Tryz.func64, Tryz.ntmps64
  go_wp2_with fail
  refine (spec_skip0 s HS.out _).mono ?_; rintro e w' ⟨rfl, rfl⟩
  go_wp2_with fail
  go_loop [4, 6, 7] (fun i n d => ∃ j : Nat, rA1 s ≤ j ∧ j ≤ rB s ∧ i = .int .i64 j ∧ n = .int .i64 (satS (valF s (rA1 s) (j - rA1 s))) ∧ d = .int .i64 ((j : Int) - (rA1 s : Int))) (fun i _ _ => s.size - (intOf i).toNat)
  case atStart => exact ⟨rA1 s, Nat.le_refl _, b1.1, by rw [HA.out]; try rfl, by rw [Nat.sub_self]; rfl, by go_num⟩
  case round =>
    obtain ⟨j, hj1, hj2, rfl, rfl, rfl⟩ := hrel
    by_cases hjb : j < rB s
    · obtain ⟨hjs, hjd⟩ := rdig hj1 hjb
      have hv0 := valF_nn ((rDigs s).less (m := j - rA1 s) (by omega))
      have hs0 := satS_bd hv0
      have hd0 := dgB_yes hjd
      have hnx := valF_next s (rA1 s) j hj1
      by_cases hbig : 9000000000000 < satS (valF s (rA1 s) (j - rA1 s)) * 10 + (bt s j - 48) * 1000000
      · have hst : satS (valF s (rA1 s) (j + 1 - rA1 s)) = 9000000000001 := by rw [hnx]; exact satS_big hv0 (by omega) hbig
        have HST := Lib.hid hst; clear hst hnx
        have HJD := Lib.hid hjd; clear hjd
        go_wp2_with (go_at_call 66; refine (spec_digitT _ HJD.out _).mono ?_; rintro e w' ⟨rfl, rfl⟩)
        go_round
        case rel => exact ⟨j + 1, by omega, by omega, by go_num, by rw [HST.out], by go_num⟩
        case measure => simp [intOf]; omega
      · have hst : satS (valF s (rA1 s) (j + 1 - rA1 s)) = satS (valF s (rA1 s) (j - rA1 s)) * 10 + (bt s j - 48) * 1000000 := by rw [hnx]; exact satS_small hv0 (by omega) hbig
        have HST := Lib.hid hst; clear hst hnx
        have HJD := Lib.hid hjd; clear hjd
        go_wp2_with (go_at_call 66; refine (spec_digitT _ HJD.out _).mono ?_; rintro e w' ⟨rfl, rfl⟩)
        go_round
        case rel => exact ⟨j + 1, by omega, by omega, by go_num, by rw [HST.out], by go_num⟩
        case measure => simp [intOf]; omega
    · have hjb2 : j = rB s := by omega
      clear hjb hj2
      subst hjb2
      have hsv : satS (valF s (rA1 s) (rB s - rA1 s)) = satV s := rfl
      have h1 : decide ((0 : Int) < (rB s : Int) - (rA1 s : Int)) = true := by simp; omega
      go_wp2_with (go_at_call 66; refine (spec_digit _ (bt_nonneg _ _) (bt_le _ _) _).mono ?_; rintro e w' ⟨rfl, rfl⟩)
      go_loop [4, 6, 7, 8] (fun i n d u => ∃ j : Nat, rB s + 1 ≤ j ∧ j ≤ rC s ∧ i = .int .i64 j ∧ n = .int .i64 (satV s + sumS s (rB s + 1) (j - (rB s + 1))) ∧ d = .int .i64 ((rB s : Int) - (rA1 s : Int) + ((j : Int) - ((rB s : Int) + 1))) ∧ u = .int .i64 (unS (j - (rB s + 1)))) (fun i _ _ _ => s.size - (intOf i).toNat)
      case atStart => exact ⟨rB s + 1, Nat.le_refl _, b4, by go_num, by rw [Nat.sub_self]; first | (simp [sumS]; done) | (simp [sumS]; unfold satV; rw [show rB s - rA1 s = 0 from by omega]), by go_num, by rw [Nat.sub_self]; rfl⟩
      case round =>
        obtain ⟨j, hj1, hj2, rfl, rfl, rfl, rfl⟩ := hrel
        have hsb := sumS_bd s (rB s + 1) (j - (rB s + 1)) ((rFrac s).less (by rw [HF.out]; omega))
        by_cases hjb : j < rC s
        · obtain ⟨hjs, hjd⟩ := rdigC HP.out hj1 hjb
          have hd0 := dgB_yes hjd
          have hu0 := unS_bd (j - (rB s + 1))
          have hpb := prod_bd (d := bt s j - 48) (u := unS (j - (rB s + 1))) (by omega) hu0
          have hnx := sumS_next s (rB s + 1) j hj1
          have hux := unS_next (rB s + 1) j hj1
          have HNX := Lib.hid hnx; clear hnx
          have HUX := Lib.hid hux; clear hux
          have HJD := Lib.hid hjd; clear hjd
          go_wp2_with (go_at_call 66; refine (spec_digitT _ HJD.out _).mono ?_; rintro e w' ⟨rfl, rfl⟩)
          go_round
          case rel => exact ⟨j + 1, by omega, by omega, by go_num, by rw [HNX.out]; go_num, by go_num, by rw [HUX.out]⟩
          case measure => simp [intOf]; omega
        · have hjb2 : j = rC s := by omega
          clear hjb hj2
          subst hjb2
          have hfv : sumS s (rB s + 1) (rC s - (rB s + 1)) = fV s := by rw [sum_fr, ← HF.out]; rfl
          have hdz : ((rB s : Int) - (rA1 s : Int) + ((rC s : Int) - ((rB s : Int) + 1)) == 0) = false := by simp; omega
          by_cases hce : rC s < s.size
          · have hdgC := rC_out HP.out hce
            go_wp2_with (go_at_call 66; refine (spec_digit _ (bt_nonneg _ _) (bt_le _ _) _).mono ?_; rintro e w' ⟨rfl, rfl⟩)
            go_ret2
            exact ⟨tupI HR.out.1.symm HR.out.2.symm, rfl⟩
          · have hcd : decide (rC s < s.size) = false := by simpa using hce
            go_wp2_with fail
            go_ret2
            exact ⟨tupI HR.out.1.symm HR.out.2.symm, rfl⟩

set_option maxHeartbeats 1000000 in
theorem spec_read_plusYesA (s : ByteArray) (hs : s.size ≤ maxLen) (hlt : rA0 s < s.size) (h45 : (bt s (rA0 s) == 45) = false) (h43 : (bt s (rA0 s) == 43) = true) (hp : rPt s = true) (hq : rA1 s < rB s) (hm : ¬ 9000000000000 < satV s + fV s) (w : World) :
    Calls Tryz.prog 64 #[.string s] w fun e w' => e = .returned (.tuple #[.int .i64 (rdN s), .int .i64 (rdK s)]) ∧ w = w' := by
  have HS := Lib.hid hs
  unfold maxLen at hs
  have hb := get_bt s
  have hA : rA1 s = rA0 s + 1 := by simp [rA1, rSgn, hlt, h43]
  have hN : rNeg s = false := by simp [rNeg, h45]
  have b1 := rB_le s
  have b2 := rC_le s
  have bs := satV_bd s
  have bf := fV_bd s
  have b3 := rPt_lt hp
  have b4 := rC_ge hp
  have h46 : (bt s (rB s) == 46) = true := by simp [rPt] at hp; simpa using hp.2
  have hF : rF s = rC s - (rB s + 1) := by rw [rF, if_pos hp]
  have hdg := rB_out b3
  have hn : rNo s = false := by simp [rNo, hF]; omega
  have hr := rs_pos hn hN
  rw [if_neg hm] at hr
  have hm2 : satV s + fV s ≤ 9000000000000 := by omega
  have HR := Lib.hid hr; clear hr
  have HF := Lib.hid hF; clear hF
  have HP := Lib.hid hp; clear hp
  have HA := Lib.hid hA; clear hA hN hn
  go_enter Tryz.func64, Tryz.ntmps64
  go_wp2_with fail
  refine (spec_skip0 s HS.out _).mono ?_; rintro e w' ⟨rfl, rfl⟩
  go_wp2_with fail
  go_loop [4, 6, 7] (fun i n d => ∃ j : Nat, rA1 s ≤ j ∧ j ≤ rB s ∧ i = .int .i64 j ∧ n = .int .i64 (satS (valF s (rA1 s) (j - rA1 s))) ∧ d = .int .i64 ((j : Int) - (rA1 s : Int))) (fun i _ _ => s.size - (intOf i).toNat)
  case atStart => exact ⟨rA1 s, Nat.le_refl _, b1.1, by rw [HA.out]; try rfl, by rw [Nat.sub_self]; rfl, by go_num⟩
  case round =>
    obtain ⟨j, hj1, hj2, rfl, rfl, rfl⟩ := hrel
    by_cases hjb : j < rB s
    · obtain ⟨hjs, hjd⟩ := rdig hj1 hjb
      have hv0 := valF_nn ((rDigs s).less (m := j - rA1 s) (by omega))
      have hs0 := satS_bd hv0
      have hd0 := dgB_yes hjd
      have hnx := valF_next s (rA1 s) j hj1
      by_cases hbig : 9000000000000 < satS (valF s (rA1 s) (j - rA1 s)) * 10 + (bt s j - 48) * 1000000
      · have hst : satS (valF s (rA1 s) (j + 1 - rA1 s)) = 9000000000001 := by rw [hnx]; exact satS_big hv0 (by omega) hbig
        have HST := Lib.hid hst; clear hst hnx
        have HJD := Lib.hid hjd; clear hjd
        go_wp2_with (go_at_call 66; refine (spec_digitT _ HJD.out _).mono ?_; rintro e w' ⟨rfl, rfl⟩)
        go_round
        case rel => exact ⟨j + 1, by omega, by omega, by go_num, by rw [HST.out], by go_num⟩
        case measure => simp [intOf]; omega
      · have hst : satS (valF s (rA1 s) (j + 1 - rA1 s)) = satS (valF s (rA1 s) (j - rA1 s)) * 10 + (bt s j - 48) * 1000000 := by rw [hnx]; exact satS_small hv0 (by omega) hbig
        have HST := Lib.hid hst; clear hst hnx
        have HJD := Lib.hid hjd; clear hjd
        go_wp2_with (go_at_call 66; refine (spec_digitT _ HJD.out _).mono ?_; rintro e w' ⟨rfl, rfl⟩)
        go_round
        case rel => exact ⟨j + 1, by omega, by omega, by go_num, by rw [HST.out], by go_num⟩
        case measure => simp [intOf]; omega
    · have hjb2 : j = rB s := by omega
      clear hjb hj2
      subst hjb2
      have hsv : satS (valF s (rA1 s) (rB s - rA1 s)) = satV s := rfl
      have h1 : decide ((0 : Int) < (rB s : Int) - (rA1 s : Int)) = true := by simp; omega
      go_wp2_with (go_at_call 66; refine (spec_digit _ (bt_nonneg _ _) (bt_le _ _) _).mono ?_; rintro e w' ⟨rfl, rfl⟩)
      go_loop [4, 6, 7, 8] (fun i n d u => ∃ j : Nat, rB s + 1 ≤ j ∧ j ≤ rC s ∧ i = .int .i64 j ∧ n = .int .i64 (satV s + sumS s (rB s + 1) (j - (rB s + 1))) ∧ d = .int .i64 ((rB s : Int) - (rA1 s : Int) + ((j : Int) - ((rB s : Int) + 1))) ∧ u = .int .i64 (unS (j - (rB s + 1)))) (fun i _ _ _ => s.size - (intOf i).toNat)
      case atStart => exact ⟨rB s + 1, Nat.le_refl _, b4, by go_num, by rw [Nat.sub_self]; first | (simp [sumS]; done) | (simp [sumS]; unfold satV; rw [show rB s - rA1 s = 0 from by omega]), by go_num, by rw [Nat.sub_self]; rfl⟩
      case round =>
        obtain ⟨j, hj1, hj2, rfl, rfl, rfl, rfl⟩ := hrel
        have hsb := sumS_bd s (rB s + 1) (j - (rB s + 1)) ((rFrac s).less (by rw [HF.out]; omega))
        by_cases hjb : j < rC s
        · obtain ⟨hjs, hjd⟩ := rdigC HP.out hj1 hjb
          have hd0 := dgB_yes hjd
          have hu0 := unS_bd (j - (rB s + 1))
          have hpb := prod_bd (d := bt s j - 48) (u := unS (j - (rB s + 1))) (by omega) hu0
          have hnx := sumS_next s (rB s + 1) j hj1
          have hux := unS_next (rB s + 1) j hj1
          have HNX := Lib.hid hnx; clear hnx
          have HUX := Lib.hid hux; clear hux
          have HJD := Lib.hid hjd; clear hjd
          go_wp2_with (go_at_call 66; refine (spec_digitT _ HJD.out _).mono ?_; rintro e w' ⟨rfl, rfl⟩)
          go_round
          case rel => exact ⟨j + 1, by omega, by omega, by go_num, by rw [HNX.out]; go_num, by go_num, by rw [HUX.out]⟩
          case measure => simp [intOf]; omega
        · have hjb2 : j = rC s := by omega
          clear hjb hj2
          subst hjb2
          have hfv : sumS s (rB s + 1) (rC s - (rB s + 1)) = fV s := by rw [sum_fr, ← HF.out]; rfl
          have hdz : ((rB s : Int) - (rA1 s : Int) + ((rC s : Int) - ((rB s : Int) + 1)) == 0) = false := by simp; omega
          by_cases hce : rC s < s.size
          · have hdgC := rC_out HP.out hce
            go_wp2_with (go_at_call 66; refine (spec_digit _ (bt_nonneg _ _) (bt_le _ _) _).mono ?_; rintro e w' ⟨rfl, rfl⟩)
            go_ret2
            exact ⟨tupI HR.out.1.symm HR.out.2.symm, rfl⟩
          · have hcd : decide (rC s < s.size) = false := by simpa using hce
            go_wp2_with fail
            go_ret2
            exact ⟨tupI HR.out.1.symm HR.out.2.symm, rfl⟩

set_option maxHeartbeats 1000000 in
theorem spec_read_plusYesBBig (s : ByteArray) (hs : s.size ≤ maxLen) (hlt : rA0 s < s.size) (h45 : (bt s (rA0 s) == 45) = false) (h43 : (bt s (rA0 s) == 43) = true) (hp : rPt s = true) (hq : rB s = rA1 s) (hq2 : rB s + 1 < rC s) (hm : 9000000000000 < satV s + fV s) (w : World) :
    Calls Tryz.prog 64 #[.string s] w fun e w' => e = .returned (.tuple #[.int .i64 (rdN s), .int .i64 (rdK s)]) ∧ w = w' := by
  have HS := Lib.hid hs
  unfold maxLen at hs
  have hb := get_bt s
  have hA : rA1 s = rA0 s + 1 := by simp [rA1, rSgn, hlt, h43]
  have hN : rNeg s = false := by simp [rNeg, h45]
  have b1 := rB_le s
  have b2 := rC_le s
  have bs := satV_bd s
  have bf := fV_bd s
  have b3 := rPt_lt hp
  have b4 := rC_ge hp
  have h46 : (bt s (rB s) == 46) = true := by simp [rPt] at hp; simpa using hp.2
  have hF : rF s = rC s - (rB s + 1) := by rw [rF, if_pos hp]
  have hdg := rB_out b3
  have hn : rNo s = false := by simp [rNo, hF]; omega
  have hr := rs_pos hn hN
  rw [if_pos hm] at hr
  obtain ⟨hy, hdg2⟩ := rdigC hp (Nat.le_refl _) hq2
  have HQ := Lib.hid hq; clear hq
  have HR := Lib.hid hr; clear hr
  have HF := Lib.hid hF; clear hF
  have HP := Lib.hid hp; clear hp
  have HA := Lib.hid hA; clear hA hN hn
  go_enter Tryz.func64, Tryz.ntmps64
  go_wp2_with fail
  refine (spec_skip0 s HS.out _).mono ?_; rintro e w' ⟨rfl, rfl⟩
  go_wp2_with fail
  go_loop [4, 6, 7] (fun i n d => ∃ j : Nat, rA1 s ≤ j ∧ j ≤ rB s ∧ i = .int .i64 j ∧ n = .int .i64 (satS (valF s (rA1 s) (j - rA1 s))) ∧ d = .int .i64 ((j : Int) - (rA1 s : Int))) (fun i _ _ => s.size - (intOf i).toNat)
  case atStart => exact ⟨rA1 s, Nat.le_refl _, b1.1, by rw [HA.out]; try rfl, by rw [Nat.sub_self]; rfl, by go_num⟩
  case round =>
    obtain ⟨j, hj1, hj2, rfl, rfl, rfl⟩ := hrel
    by_cases hjb : j < rB s
    · obtain ⟨hjs, hjd⟩ := rdig hj1 hjb
      have hv0 := valF_nn ((rDigs s).less (m := j - rA1 s) (by omega))
      have hs0 := satS_bd hv0
      have hd0 := dgB_yes hjd
      have hnx := valF_next s (rA1 s) j hj1
      by_cases hbig : 9000000000000 < satS (valF s (rA1 s) (j - rA1 s)) * 10 + (bt s j - 48) * 1000000
      · have hst : satS (valF s (rA1 s) (j + 1 - rA1 s)) = 9000000000001 := by rw [hnx]; exact satS_big hv0 (by omega) hbig
        have HST := Lib.hid hst; clear hst hnx
        have HJD := Lib.hid hjd; clear hjd
        go_wp2_with (go_at_call 66; refine (spec_digitT _ HJD.out _).mono ?_; rintro e w' ⟨rfl, rfl⟩)
        go_round
        case rel => exact ⟨j + 1, by omega, by omega, by go_num, by rw [HST.out], by go_num⟩
        case measure => simp [intOf]; omega
      · have hst : satS (valF s (rA1 s) (j + 1 - rA1 s)) = satS (valF s (rA1 s) (j - rA1 s)) * 10 + (bt s j - 48) * 1000000 := by rw [hnx]; exact satS_small hv0 (by omega) hbig
        have HST := Lib.hid hst; clear hst hnx
        have HJD := Lib.hid hjd; clear hjd
        go_wp2_with (go_at_call 66; refine (spec_digitT _ HJD.out _).mono ?_; rintro e w' ⟨rfl, rfl⟩)
        go_round
        case rel => exact ⟨j + 1, by omega, by omega, by go_num, by rw [HST.out], by go_num⟩
        case measure => simp [intOf]; omega
    · have hjb2 : j = rB s := by omega
      clear hjb hj2
      subst hjb2
      have hsv : satS (valF s (rA1 s) (rB s - rA1 s)) = satV s := rfl
      have h2 : rB s ≤ rA1 s := by have := HQ.out; omega
      have h1 : decide ((0 : Int) < (rB s : Int) - (rA1 s : Int)) = false := by simp; omega
      go_wp2_with (go_at_call 66; refine (spec_digit _ (bt_nonneg _ _) (bt_le _ _) _).mono ?_; rintro e w' ⟨rfl, rfl⟩)
      go_loop [4, 6, 7, 8] (fun i n d u => ∃ j : Nat, rB s + 1 ≤ j ∧ j ≤ rC s ∧ i = .int .i64 j ∧ n = .int .i64 (satV s + sumS s (rB s + 1) (j - (rB s + 1))) ∧ d = .int .i64 ((rB s : Int) - (rA1 s : Int) + ((j : Int) - ((rB s : Int) + 1))) ∧ u = .int .i64 (unS (j - (rB s + 1)))) (fun i _ _ _ => s.size - (intOf i).toNat)
      case atStart => exact ⟨rB s + 1, Nat.le_refl _, b4, by go_num, by rw [Nat.sub_self]; first | (simp [sumS]; done) | (simp [sumS]; unfold satV; rw [show rB s - rA1 s = 0 from by omega]), by go_num, by rw [Nat.sub_self]; rfl⟩
      case round =>
        obtain ⟨j, hj1, hj2, rfl, rfl, rfl, rfl⟩ := hrel
        have hsb := sumS_bd s (rB s + 1) (j - (rB s + 1)) ((rFrac s).less (by rw [HF.out]; omega))
        by_cases hjb : j < rC s
        · obtain ⟨hjs, hjd⟩ := rdigC HP.out hj1 hjb
          have hd0 := dgB_yes hjd
          have hu0 := unS_bd (j - (rB s + 1))
          have hpb := prod_bd (d := bt s j - 48) (u := unS (j - (rB s + 1))) (by omega) hu0
          have hnx := sumS_next s (rB s + 1) j hj1
          have hux := unS_next (rB s + 1) j hj1
          have HNX := Lib.hid hnx; clear hnx
          have HUX := Lib.hid hux; clear hux
          have HJD := Lib.hid hjd; clear hjd
          go_wp2_with (go_at_call 66; refine (spec_digitT _ HJD.out _).mono ?_; rintro e w' ⟨rfl, rfl⟩)
          go_round
          case rel => exact ⟨j + 1, by omega, by omega, by go_num, by rw [HNX.out]; go_num, by go_num, by rw [HUX.out]⟩
          case measure => simp [intOf]; omega
        · have hjb2 : j = rC s := by omega
          clear hjb hj2
          subst hjb2
          have hfv : sumS s (rB s + 1) (rC s - (rB s + 1)) = fV s := by rw [sum_fr, ← HF.out]; rfl
          have hdz : ((rB s : Int) - (rA1 s : Int) + ((rC s : Int) - ((rB s : Int) + 1)) == 0) = false := by simp; omega
          by_cases hce : rC s < s.size
          · have hdgC := rC_out HP.out hce
            go_wp2_with (go_at_call 66; refine (spec_digit _ (bt_nonneg _ _) (bt_le _ _) _).mono ?_; rintro e w' ⟨rfl, rfl⟩)
            go_ret2
            exact ⟨tupI HR.out.1.symm HR.out.2.symm, rfl⟩
          · have hcd : decide (rC s < s.size) = false := by simpa using hce
            go_wp2_with fail
            go_ret2
            exact ⟨tupI HR.out.1.symm HR.out.2.symm, rfl⟩

set_option maxHeartbeats 1000000 in
theorem spec_read_plusYesB (s : ByteArray) (hs : s.size ≤ maxLen) (hlt : rA0 s < s.size) (h45 : (bt s (rA0 s) == 45) = false) (h43 : (bt s (rA0 s) == 43) = true) (hp : rPt s = true) (hq : rB s = rA1 s) (hq2 : rB s + 1 < rC s) (hm : ¬ 9000000000000 < satV s + fV s) (w : World) :
    Calls Tryz.prog 64 #[.string s] w fun e w' => e = .returned (.tuple #[.int .i64 (rdN s), .int .i64 (rdK s)]) ∧ w = w' := by
  have HS := Lib.hid hs
  unfold maxLen at hs
  have hb := get_bt s
  have hA : rA1 s = rA0 s + 1 := by simp [rA1, rSgn, hlt, h43]
  have hN : rNeg s = false := by simp [rNeg, h45]
  have b1 := rB_le s
  have b2 := rC_le s
  have bs := satV_bd s
  have bf := fV_bd s
  have b3 := rPt_lt hp
  have b4 := rC_ge hp
  have h46 : (bt s (rB s) == 46) = true := by simp [rPt] at hp; simpa using hp.2
  have hF : rF s = rC s - (rB s + 1) := by rw [rF, if_pos hp]
  have hdg := rB_out b3
  have hn : rNo s = false := by simp [rNo, hF]; omega
  have hr := rs_pos hn hN
  rw [if_neg hm] at hr
  have hm2 : satV s + fV s ≤ 9000000000000 := by omega
  obtain ⟨hy, hdg2⟩ := rdigC hp (Nat.le_refl _) hq2
  have HQ := Lib.hid hq; clear hq
  have HR := Lib.hid hr; clear hr
  have HF := Lib.hid hF; clear hF
  have HP := Lib.hid hp; clear hp
  have HA := Lib.hid hA; clear hA hN hn
  go_enter Tryz.func64, Tryz.ntmps64
  go_wp2_with fail
  refine (spec_skip0 s HS.out _).mono ?_; rintro e w' ⟨rfl, rfl⟩
  go_wp2_with fail
  go_loop [4, 6, 7] (fun i n d => ∃ j : Nat, rA1 s ≤ j ∧ j ≤ rB s ∧ i = .int .i64 j ∧ n = .int .i64 (satS (valF s (rA1 s) (j - rA1 s))) ∧ d = .int .i64 ((j : Int) - (rA1 s : Int))) (fun i _ _ => s.size - (intOf i).toNat)
  case atStart => exact ⟨rA1 s, Nat.le_refl _, b1.1, by rw [HA.out]; try rfl, by rw [Nat.sub_self]; rfl, by go_num⟩
  case round =>
    obtain ⟨j, hj1, hj2, rfl, rfl, rfl⟩ := hrel
    by_cases hjb : j < rB s
    · obtain ⟨hjs, hjd⟩ := rdig hj1 hjb
      have hv0 := valF_nn ((rDigs s).less (m := j - rA1 s) (by omega))
      have hs0 := satS_bd hv0
      have hd0 := dgB_yes hjd
      have hnx := valF_next s (rA1 s) j hj1
      by_cases hbig : 9000000000000 < satS (valF s (rA1 s) (j - rA1 s)) * 10 + (bt s j - 48) * 1000000
      · have hst : satS (valF s (rA1 s) (j + 1 - rA1 s)) = 9000000000001 := by rw [hnx]; exact satS_big hv0 (by omega) hbig
        have HST := Lib.hid hst; clear hst hnx
        have HJD := Lib.hid hjd; clear hjd
        go_wp2_with (go_at_call 66; refine (spec_digitT _ HJD.out _).mono ?_; rintro e w' ⟨rfl, rfl⟩)
        go_round
        case rel => exact ⟨j + 1, by omega, by omega, by go_num, by rw [HST.out], by go_num⟩
        case measure => simp [intOf]; omega
      · have hst : satS (valF s (rA1 s) (j + 1 - rA1 s)) = satS (valF s (rA1 s) (j - rA1 s)) * 10 + (bt s j - 48) * 1000000 := by rw [hnx]; exact satS_small hv0 (by omega) hbig
        have HST := Lib.hid hst; clear hst hnx
        have HJD := Lib.hid hjd; clear hjd
        go_wp2_with (go_at_call 66; refine (spec_digitT _ HJD.out _).mono ?_; rintro e w' ⟨rfl, rfl⟩)
        go_round
        case rel => exact ⟨j + 1, by omega, by omega, by go_num, by rw [HST.out], by go_num⟩
        case measure => simp [intOf]; omega
    · have hjb2 : j = rB s := by omega
      clear hjb hj2
      subst hjb2
      have hsv : satS (valF s (rA1 s) (rB s - rA1 s)) = satV s := rfl
      have h2 : rB s ≤ rA1 s := by have := HQ.out; omega
      have h1 : decide ((0 : Int) < (rB s : Int) - (rA1 s : Int)) = false := by simp; omega
      go_wp2_with (go_at_call 66; refine (spec_digit _ (bt_nonneg _ _) (bt_le _ _) _).mono ?_; rintro e w' ⟨rfl, rfl⟩)
      go_loop [4, 6, 7, 8] (fun i n d u => ∃ j : Nat, rB s + 1 ≤ j ∧ j ≤ rC s ∧ i = .int .i64 j ∧ n = .int .i64 (satV s + sumS s (rB s + 1) (j - (rB s + 1))) ∧ d = .int .i64 ((rB s : Int) - (rA1 s : Int) + ((j : Int) - ((rB s : Int) + 1))) ∧ u = .int .i64 (unS (j - (rB s + 1)))) (fun i _ _ _ => s.size - (intOf i).toNat)
      case atStart => exact ⟨rB s + 1, Nat.le_refl _, b4, by go_num, by rw [Nat.sub_self]; first | (simp [sumS]; done) | (simp [sumS]; unfold satV; rw [show rB s - rA1 s = 0 from by omega]), by go_num, by rw [Nat.sub_self]; rfl⟩
      case round =>
        obtain ⟨j, hj1, hj2, rfl, rfl, rfl, rfl⟩ := hrel
        have hsb := sumS_bd s (rB s + 1) (j - (rB s + 1)) ((rFrac s).less (by rw [HF.out]; omega))
        by_cases hjb : j < rC s
        · obtain ⟨hjs, hjd⟩ := rdigC HP.out hj1 hjb
          have hd0 := dgB_yes hjd
          have hu0 := unS_bd (j - (rB s + 1))
          have hpb := prod_bd (d := bt s j - 48) (u := unS (j - (rB s + 1))) (by omega) hu0
          have hnx := sumS_next s (rB s + 1) j hj1
          have hux := unS_next (rB s + 1) j hj1
          have HNX := Lib.hid hnx; clear hnx
          have HUX := Lib.hid hux; clear hux
          have HJD := Lib.hid hjd; clear hjd
          go_wp2_with (go_at_call 66; refine (spec_digitT _ HJD.out _).mono ?_; rintro e w' ⟨rfl, rfl⟩)
          go_round
          case rel => exact ⟨j + 1, by omega, by omega, by go_num, by rw [HNX.out]; go_num, by go_num, by rw [HUX.out]⟩
          case measure => simp [intOf]; omega
        · have hjb2 : j = rC s := by omega
          clear hjb hj2
          subst hjb2
          have hfv : sumS s (rB s + 1) (rC s - (rB s + 1)) = fV s := by rw [sum_fr, ← HF.out]; rfl
          have hdz : ((rB s : Int) - (rA1 s : Int) + ((rC s : Int) - ((rB s : Int) + 1)) == 0) = false := by simp; omega
          by_cases hce : rC s < s.size
          · have hdgC := rC_out HP.out hce
            go_wp2_with (go_at_call 66; refine (spec_digit _ (bt_nonneg _ _) (bt_le _ _) _).mono ?_; rintro e w' ⟨rfl, rfl⟩)
            go_ret2
            exact ⟨tupI HR.out.1.symm HR.out.2.symm, rfl⟩
          · have hcd : decide (rC s < s.size) = false := by simpa using hce
            go_wp2_with fail
            go_ret2
            exact ⟨tupI HR.out.1.symm HR.out.2.symm, rfl⟩

end Go.Proofs.YthaedmldlenhgaaGreatDoor.Dec
