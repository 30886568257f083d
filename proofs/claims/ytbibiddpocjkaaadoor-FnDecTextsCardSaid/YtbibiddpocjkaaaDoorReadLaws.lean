/-
  What ReadDec of the model, and LooksNum of both, return.
-/
import Derived.Test.YtbibiddpocjkaaaDoorReadImpl
namespace Go.Proofs.YtbibiddpocjkaaaDoor.Dec
open Go.ChangeShapes Go.WideShapes Go.ChangeAt Go.RowKit Go.PlainAid
open Go.Proofs.YtbibiddpocjkaaaDoor.DecPure Go.Proofs.YtbibiddpocjkaaaDoor.ReadPure
set_option linter.unusedVariables false


theorem impl_looks (s : ByteArray) (hs : s.size ≤ maxLen) (w : World) :
    Calls Tryd.prog 14 #[.string s] w fun e w' => e = .returned (.bool (looksB s)) ∧ w = w' := by
  have hk := rdK_bd s
  obtain ⟨k, hkk⟩ := Int.eq_ofNat_of_zero_le hk.1
  by_cases h0 : 0 < rdK s
  · have e : looksB s = (endOf spB s k == s.size) := by unfold looksB; rw [hkk, Int.toNat_natCast]; simp; omega
    have E := Lib.hid e; clear e
    have HK := Lib.hid hkk; clear hkk
    have HS := Lib.hid hs
    go_enter Tryd.func14, Tryd.ntmps14
    go_wp2_with fail
    refine (impl_readDec s HS.out _).mono ?_; rintro e w' ⟨rfl, rfl⟩
    go_wp2_with fail
    rw [HK.out]
    refine (impl_spaceEnd s k HS.out (by have := HK.out; omega) _).mono ?_; rintro e w' ⟨rfl, rfl⟩
    go_wp2_with fail
    go_ret
    exact ⟨retB (by rw [E.out, Bool.eq_iff_iff]; first | (simp; done) | (simp; omega)), rfl⟩
  · have e : looksB s = false := by unfold looksB; simp; omega
    have E := Lib.hid e; clear e
    have hd : decide (0 < rdK s) = false := by simpa using h0
    clear hkk
    go_enter Tryd.func14, Tryd.ntmps14
    go_wp2_with fail
    refine (impl_readDec s hs _).mono ?_; rintro e w' ⟨rfl, rfl⟩
    go_wp2_with fail
    go_ret
    exact ⟨retB E.out.symm, rfl⟩


end Go.Proofs.YtbibiddpocjkaaaDoor.Dec
