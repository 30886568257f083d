/-
  What DecText of the program and of its model return: the same text.
-/
import Derived.Test.YtlfmiikpbdhemaaGreatDoorFmt
import Derived.Test.YtlfmiikpbdhemaaGreatDoorPures
import Derived.Test.YtlfmiikpbdhemaaGreatDoorText
import Derived.Laws.Concat
namespace Go.Proofs.YtlfmiikpbdhemaaGreatDoor.Dec
open Go.ChangeShapes Go.WideShapes Go.ChangeAt Go.RowKit
open Go.Proofs.YtlfmiikpbdhemaaGreatDoor.DecPure Go.Proofs.YtlfmiikpbdhemaaGreatDoor.TextPure Go.Proofs.YtlfmiikpbdhemaaGreatDoor.Fmt
set_option linter.unusedVariables false

def Tables (w : World) : Prop := Lib.TabIs Tryz.prog w "internal/strconv.uint64pow10" .u64 Lib.pow10Tab
/-- A text of at most so many bytes is returned; only new blocks come. -/
def StrEnd (m : Nat) (s0 : ByteArray) (w : World) (e : Ending) (w' : World) : Prop := ∃ s : ByteArray, e = .returned (.string s) ∧ s = s0 ∧ s.size ≤ m ∧ Below w.heap.size w w'

theorem dec_text (n : Int) (hn : dOk n = true) (w : World) (htab : Tables w) : Calls Tryz.prog 51 #[.int .i64 n] w fun e w' => e = .returned (.string (textB n)) ∧ Below w.heap.size w w' := by
  have ha := absV_bd hn
  have HN := Lib.hid hn; clear hn
  have HT := Lib.hid htab; clear htab
  obtain ⟨u, hu⟩ := Int.eq_ofNat_of_zero_le (show 0 ≤ absV n / 1000000 by omega)
  have hbn : u ≤ 9000000 := by omega
  have hfm : Calls Tryz.prog 65 #[.int .u64 (absV n / 1000000), .int .i64 10] w (StrEnd 20 (digB u) w) := by
    rw [hu]; exact (fmt_any u (by omega) w HT.out).mono fun e w' ⟨a, b⟩ => ⟨_, a, rfl, digB_size (by omega), b⟩
  have hfr : ∀ W : World, Calls Tryz.prog 67 #[.int .i64 n] W (StrEnd 7 (strOfNums (fracL n)) W) := fun W =>
    (frac_text n HN.out W).mono fun e w' ⟨a, b⟩ => ⟨_, a, rfl, fracL_size n, b⟩
  have HFM := Lib.hid hfm; clear hfm
  have HFR := Lib.hid hfr; clear hfr
  have hun : u = (absV n / 1000000).toNat := by omega
  have HU := Lib.hid hun; clear hun hu
  by_cases h0 : n < 0
  · have ht : textB n = ⟨#[45]⟩ ++ digB u ++ strOfNums (fracL n) := by rw [textB, if_pos h0, HU.out]
    have HX := Lib.hid ht; clear ht
    go_enter Tryz.func51, Tryz.ntmps51
    go_wp2_with fail
    refine (dec_size _ HN.out _).mono ?_
    rintro e w' ⟨rfl, rfl⟩
    go_wp2_with fail
    refine HFM.out.mono ?_
    rintro e w1 ⟨s1, rfl, hs1, hz1, hB1⟩
    have HS1 := Lib.hid hs1; clear hs1
    go_wp2_with fail
    refine (HFR.out _).mono ?_
    rintro e w2 ⟨s2, rfl, hs2, hz2, hB2⟩
    have HS2 := Lib.hid hs2; clear hs2
    go_wp2_with fail
    go_ret
    exact ⟨strs (by rw [HX.out, HS1.out, HS2.out]), hB1.trans (hB2.mono hB1.size)⟩
  · have ht : textB n = digB u ++ strOfNums (fracL n) := by rw [textB, if_neg h0, HU.out]
    have HX := Lib.hid ht; clear ht
    have hd0 : decide (n < 0) = false := by simpa using h0
    go_enter Tryz.func51, Tryz.ntmps51
    go_wp2_with fail
    refine (dec_size _ HN.out _).mono ?_
    rintro e w' ⟨rfl, rfl⟩
    go_wp2_with fail
    refine HFM.out.mono ?_
    rintro e w1 ⟨s1, rfl, hs1, hz1, hB1⟩
    have HS1 := Lib.hid hs1; clear hs1
    go_wp2_with fail
    refine (HFR.out _).mono ?_
    rintro e w2 ⟨s2, rfl, hs2, hz2, hB2⟩
    have HS2 := Lib.hid hs2; clear hs2
    go_wp2_with fail
    go_ret
    exact ⟨strs (by rw [HX.out, HS1.out, HS2.out, join_nil]), hB1.trans (hB2.mono hB1.size)⟩

theorem impl_text (n : Int) (w : World) (htab : Tables w) : Calls Tryz.prog 30 #[.int .i64 n] w fun e w' => e = .returned (.string (dtB n)) ∧ Below w.heap.size w w' := by
  by_cases h : dOk n = true
  · have ht : dtB n = textB n := by rw [dtB, if_pos h]
    have HX := Lib.hid ht; clear ht
    have HC := Lib.hid (dec_text n h w htab); clear htab
    go_enter Tryz.func30, Tryz.ntmps30
    go_wp2_with (first | (go_at_call 50; refine (impl_ok _ _).mono ?_; rintro e w' ⟨rfl, rfl⟩) | (go_at_call 51; refine HC.out.mono ?_; rintro e w' ⟨rfl, hB⟩))
    go_ret
    exact ⟨strs (by rw [HX.out]), hB⟩
  · have ht : dtB n = ⟨#[]⟩ := by rw [dtB, if_neg h]
    have HX := Lib.hid ht; clear ht
    have hf := no_eq h
    clear h htab
    go_enter Tryz.func30, Tryz.ntmps30
    go_wp2_with (first | (go_at_call 50; refine (impl_ok _ _).mono ?_; rintro e w' ⟨rfl, rfl⟩))
    go_ret
    exact ⟨strs HX.out.symm, Below.refl _ _⟩






end Go.Proofs.YtlfmiikpbdhemaaGreatDoor.Dec
