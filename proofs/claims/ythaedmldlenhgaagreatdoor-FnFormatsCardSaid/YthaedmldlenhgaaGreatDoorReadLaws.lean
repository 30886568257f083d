/-
  What ReadDec of the model, and LooksNum of both, return.
-/
import Derived.Test.YthaedmldlenhgaaGreatDoorReadImpl
import Derived.Test.YthaedmldlenhgaaGreatDoorReadSpecB
import Derived.Test.YthaedmldlenhgaaGreatDoorReadSpecC
namespace Go.Proofs.YthaedmldlenhgaaGreatDoor.Dec
open Go.ChangeShapes Go.WideShapes Go.ChangeAt Go.RowKit Go.PlainAid
open Go.Proofs.YthaedmldlenhgaaGreatDoor.DecPure Go.Proofs.YthaedmldlenhgaaGreatDoor.ReadPure
set_option linter.unusedVariables false

theorem spec_readDec (s : ByteArray) (hs : s.size ≤ maxLen) (w : World) :
    Calls Tryz.prog 64 #[.string s] w fun e w' => e = .returned (.tuple #[.int .i64 (rdN s), .int .i64 (rdK s)]) ∧ w = w' := by
  by_cases hx : rA0 s < s.size
  · by_cases h45 : (bt s (rA0 s) == 45) = true
    · have h43 : (bt s (rA0 s) == 43) = false := by simp at h45 ⊢; omega
      by_cases hp : rPt s = true
      · have b3 := rPt_lt hp
        have b4 := rC_ge hp
        have b1 := rB_le s
        by_cases hq : rA1 s < rB s
        · by_cases hm : 9000000000000 < satV s + fV s
          · exact spec_read_minusYesABig s hs hx h45 h43 hp hq hm w
          · exact spec_read_minusYesA s hs hx h45 h43 hp hq hm w
        · have hq' : rB s = rA1 s := by omega
          by_cases hc : rB s + 1 < rC s
          · by_cases hm : 9000000000000 < satV s + fV s
            · exact spec_read_minusYesBBig s hs hx h45 h43 hp hq' hc hm w
            · exact spec_read_minusYesB s hs hx h45 h43 hp hq' hc hm w
          · have hc' : rC s = rB s + 1 := by omega
            by_cases hy : rB s + 1 < s.size
            · have hd := rC_out hp (by omega)
              rw [hc'] at hd
              exact spec_read_minusYesNoOther s hs hx h45 h43 hp hq' hc' hy hd w
            · exact spec_read_minusYesNoEnd s hs hx h45 h43 hp hq' hc' (by simpa using hy) w
      · have b1 := rB_le s
        by_cases hy : rB s < s.size
        · have h46 : (bt s (rB s) == 46) = false := by simpa [rPt, hy] using hp
          by_cases hq : rA1 s < rB s
          · by_cases hm : 9000000000000 < satV s
            · exact spec_read_minusOtherNumBig s hs hx h45 h43 hy h46 hq hm w
            · exact spec_read_minusOtherNum s hs hx h45 h43 hy h46 hq hm w
          · exact spec_read_minusOtherNo s hs hx h45 h43 hy h46 (by omega) w
        · have hy' : decide (rB s < s.size) = false := by simpa using hy
          by_cases hq : rA1 s < rB s
          · by_cases hm : 9000000000000 < satV s
            · exact spec_read_minusEndNumBig s hs hx h45 h43 hy' hq hm w
            · exact spec_read_minusEndNum s hs hx h45 h43 hy' hq hm w
          · exact spec_read_minusEndNo s hs hx h45 h43 hy' (by omega) w
    · have h45' := no_eq h45
      by_cases h43 : (bt s (rA0 s) == 43) = true
      · by_cases hp : rPt s = true
        · have b3 := rPt_lt hp
          have b4 := rC_ge hp
          have b1 := rB_le s
          by_cases hq : rA1 s < rB s
          · by_cases hm : 9000000000000 < satV s + fV s
            · exact spec_read_plusYesABig s hs hx h45' h43 hp hq hm w
            · exact spec_read_plusYesA s hs hx h45' h43 hp hq hm w
          · have hq' : rB s = rA1 s := by omega
            by_cases hc : rB s + 1 < rC s
            · by_cases hm : 9000000000000 < satV s + fV s
              · exact spec_read_plusYesBBig s hs hx h45' h43 hp hq' hc hm w
              · exact spec_read_plusYesB s hs hx h45' h43 hp hq' hc hm w
            · have hc' : rC s = rB s + 1 := by omega
              by_cases hy : rB s + 1 < s.size
              · have hd := rC_out hp (by omega)
                rw [hc'] at hd
                exact spec_read_plusYesNoOther s hs hx h45' h43 hp hq' hc' hy hd w
              · exact spec_read_plusYesNoEnd s hs hx h45' h43 hp hq' hc' (by simpa using hy) w
        · have b1 := rB_le s
          by_cases hy : rB s < s.size
          · have h46 : (bt s (rB s) == 46) = false := by simpa [rPt, hy] using hp
            by_cases hq : rA1 s < rB s
            · by_cases hm : 9000000000000 < satV s
              · exact spec_read_plusOtherNumBig s hs hx h45' h43 hy h46 hq hm w
              · exact spec_read_plusOtherNum s hs hx h45' h43 hy h46 hq hm w
            · exact spec_read_plusOtherNo s hs hx h45' h43 hy h46 (by omega) w
          · have hy' : decide (rB s < s.size) = false := by simpa using hy
            by_cases hq : rA1 s < rB s
            · by_cases hm : 9000000000000 < satV s
              · exact spec_read_plusEndNumBig s hs hx h45' h43 hy' hq hm w
              · exact spec_read_plusEndNum s hs hx h45' h43 hy' hq hm w
            · exact spec_read_plusEndNo s hs hx h45' h43 hy' (by omega) w
      · have h43' := no_eq h43
        by_cases hp : rPt s = true
        · have b3 := rPt_lt hp
          have b4 := rC_ge hp
          have b1 := rB_le s
          by_cases hq : rA1 s < rB s
          · by_cases hm : 9000000000000 < satV s + fV s
            · exact spec_read_otherYesABig s hs hx h45' h43' hp hq hm w
            · exact spec_read_otherYesA s hs hx h45' h43' hp hq hm w
          · have hq' : rB s = rA1 s := by omega
            by_cases hc : rB s + 1 < rC s
            · by_cases hm : 9000000000000 < satV s + fV s
              · exact spec_read_otherYesBBig s hs hx h45' h43' hp hq' hc hm w
              · exact spec_read_otherYesB s hs hx h45' h43' hp hq' hc hm w
            · have hc' : rC s = rB s + 1 := by omega
              by_cases hy : rB s + 1 < s.size
              · have hd := rC_out hp (by omega)
                rw [hc'] at hd
                exact spec_read_otherYesNoOther s hs hx h45' h43' hp hq' hc' hy hd w
              · exact spec_read_otherYesNoEnd s hs hx h45' h43' hp hq' hc' (by simpa using hy) w
        · have b1 := rB_le s
          by_cases hy : rB s < s.size
          · have h46 : (bt s (rB s) == 46) = false := by simpa [rPt, hy] using hp
            by_cases hq : rA1 s < rB s
            · by_cases hm : 9000000000000 < satV s
              · exact spec_read_otherOtherNumBig s hs hx h45' h43' hy h46 hq hm w
              · exact spec_read_otherOtherNum s hs hx h45' h43' hy h46 hq hm w
            · exact spec_read_otherOtherNo s hs hx h45' h43' hy h46 (by omega) w
          · have hy' : decide (rB s < s.size) = false := by simpa using hy
            by_cases hq : rA1 s < rB s
            · by_cases hm : 9000000000000 < satV s
              · exact spec_read_otherEndNumBig s hs hx h45' h43' hy' hq hm w
              · exact spec_read_otherEndNum s hs hx h45' h43' hy' hq hm w
            · exact spec_read_otherEndNo s hs hx h45' h43' hy' (by omega) w
  · have hx' : decide (rA0 s < s.size) = false := by simpa using hx
    have hy : s.size ≤ rB s := by
      have h1 := (rB_le s).1
      have h2 : rA0 s ≤ rA1 s := by unfold rA1; split <;> omega
      omega
    have hy' : decide (rB s < s.size) = false := by simpa using hy
    have b1 := rB_le s
    by_cases hq : rA1 s < rB s
    · by_cases hm : 9000000000000 < satV s
      · exact spec_read_endEndNumBig s hs hx' hy' hq hm w
      · exact spec_read_endEndNum s hs hx' hy' hq hm w
    · exact spec_read_endEndNo s hs hx' hy' (by omega) w

theorem impl_looks (s : ByteArray) (hs : s.size ≤ maxLen) (w : World) :
    Calls Tryz.prog 185 #[.string s] w fun e w' => e = .returned (.bool (looksB s)) ∧ w = w' := by
  have hk := rdK_bd s
  obtain ⟨k, hkk⟩ := Int.eq_ofNat_of_zero_le hk.1
  by_cases h0 : 0 < rdK s
  · have e : looksB s = (endOf spB s k == s.size) := by unfold looksB; rw [hkk, Int.toNat_natCast]; simp; omega
    have E := Lib.hid e; clear e
    have HK := Lib.hid hkk; clear hkk
    have HS := Lib.hid hs
    go_enter Tryz.func185, Tryz.ntmps185
    go_wp2_with fail
    refine (impl_readDec s HS.out _).mono ?_; rintro e w' ⟨rfl, rfl⟩
    go_wp2_with fail
    rw [HK.out]
    refine (impl_spaceEnd s k HS.out (by have := HK.out; omega) _).mono ?_; rintro e w' ⟨rfl, rfl⟩
    go_wp2_with fail
    go_ret
    exact ⟨retB (by rw [E.out, Bool.eq_iff_iff]; first | (simp; done) | (simp; omega)), rfl⟩
  · have e : looksB s = false := by unfold looksB; simp; omega
    have E := Lib.hid e; clear e
    have hd : decide (0 < rdK s) = false := by simpa using h0
    clear hkk
    go_enter Tryz.func185, Tryz.ntmps185
    go_wp2_with fail
    refine (impl_readDec s hs _).mono ?_; rintro e w' ⟨rfl, rfl⟩
    go_wp2_with fail
    go_ret
    exact ⟨retB E.out.symm, rfl⟩

theorem spec_looks (s : ByteArray) (hs : s.size ≤ maxLen) (w : World) :
    Calls Tryz.prog 65 #[.string s] w fun e w' => e = .returned (.bool (looksB s)) ∧ w = w' := by
  have hk := rdK_bd s
  obtain ⟨k, hkk⟩ := Int.eq_ofNat_of_zero_le hk.1
  by_cases h0 : 0 < rdK s
  · have e : looksB s = (endOf spB s k == s.size) := by unfold looksB; rw [hkk, Int.toNat_natCast]; simp; omega
    have E := Lib.hid e; clear e
    have HK := Lib.hid hkk; clear hkk
    have HS := Lib.hid hs
    go_enter Tryz.func65, Tryz.ntmps65
    go_wp2_with fail
    refine (spec_readDec s HS.out _).mono ?_; rintro e w' ⟨rfl, rfl⟩
    go_wp2_with fail
    rw [HK.out]
    refine (spec_skip s k HS.out (by have := HK.out; omega) _).mono ?_; rintro e w' ⟨rfl, rfl⟩
    go_wp2_with fail
    go_ret
    exact ⟨retB (by rw [E.out, Bool.eq_iff_iff]; first | (simp; done) | (simp; omega)), rfl⟩
  · have e : looksB s = false := by unfold looksB; simp; omega
    have E := Lib.hid e; clear e
    have hd : decide (0 < rdK s) = false := by simpa using h0
    clear hkk
    go_enter Tryz.func65, Tryz.ntmps65
    go_wp2_with fail
    refine (spec_readDec s hs _).mono ?_; rintro e w' ⟨rfl, rfl⟩
    go_wp2_with fail
    go_ret
    exact ⟨retB E.out.symm, rfl⟩

end Go.Proofs.YthaedmldlenhgaaGreatDoor.Dec
