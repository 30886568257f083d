/-
  The model's functions that draw the texts of chapter 7.
-/
import Derived.Test.YthaedmldlenhgaaDoorDrawT
namespace Go.Proofs.YthaedmldlenhgaaDoor.Draw
open Go.ChangeShapes Go.WideShapes Go.ChangeAt Go.RowKit
open Go.PlainAid Go.Proofs.YthaedmldlenhgaaDoor.Dec
open Go.Proofs.YthaedmldlenhgaaDoor.DecPure Go.Proofs.YthaedmldlenhgaaDoor.ReadPure Go.Proofs.YthaedmldlenhgaaDoor.Cell
set_option linter.unusedVariables false

def TxtTwo (w : World) (e : Ending) (w' : World) : Prop := ∃ s t : ByteArray, e = .returned (.tuple #[.string s, .string t]) ∧ s.size ≤ 20 ∧ t.size ≤ 20 ∧ Below w.heap.size w w'
def TxtOne (m : Nat) (w : World) (e : Ending) (w' : World) : Prop := ∃ s : ByteArray, e = .returned (.string s) ∧ s.size ≤ m ∧ Below w.heap.size w w'
def TxtNums (w : World) (e : Ending) (w' : World) : Prop := ∃ (s : ByteArray) (f n : Int), e = .returned (.tuple #[.string s, .int .i64 f, .int .i64 n]) ∧ s.size ≤ 20 ∧ I64 f ∧ I64 n ∧ Below w.heap.size w w'

theorem text_int (w : World) (B g : Nat) (A : Option Addr) (n cap : Nat) (Z : Nat → Int) (hc : Cur w B g A n cap Z) (x : Int) (m : Nat) (hx : 0 ≤ x ∧ x < m) (hm : m ≤ 1000) (t : ByteArray) (h1 : 1 ≤ t.size) (h2 : t.size ≤ 1000000) :
    Calls Tryd.prog 24 #[.pointer (some ⟨g, 0, none⟩), .int .i64 x, .string t] w (Txt m w B g A n cap Z) := by
  obtain ⟨q, rfl⟩ := Int.eq_ofNat_of_zero_le hx.1
  exact (text_of w B g A n cap Z hc q (by omega) t h1 h2).mono fun e w' ⟨s, he, hs, hc', ho⟩ => ⟨s, he, by omega, hc', ho⟩

set_option maxRecDepth 100000 in
set_option maxHeartbeats 2000000 in
theorem drawIndexOf (w : World) (A : Option Addr) (n cap : Nat) (Z : Nat → Int) (hn : n ≤ 9223372036854775807) (hb : Bytes w w.heap.size A n Z) :
    Calls Tryd.prog 14 #[.slice A n cap] w (TxtTwo w) := by
  have HB := Lib.hid hb; clear hb
  go_enter Tryd.func14, Tryd.ntmps14
  go_wp2_with fail
  refine (new_any w A n cap Z hn HB.out).mono ?_
  rintro e w1 ⟨g, rfl, hc1, hb1⟩
  have HC1 := Lib.hid hc1; clear hc1
  have HB1 := Lib.hid hb1; clear hb1
  go_wp2_with fail
  refine (below_any w1 _ g A n cap Z HC1.out 12 (by omega) (by omega)).mono ?_
  rintro e w2 ⟨x, rfl, hx, hc2, ho2⟩
  have HC2 := Lib.hid hc2; clear hc2
  have HO2 := Lib.hid ho2; clear ho2
  go_wp2_with fail
  refine (text_int w2 _ g A n cap Z HC2.out x 12 hx (by omega) ⟨#[97, 98]⟩ (by decide) (by decide)).mono ?_
  rintro e w3 ⟨s, rfl, hs, hc3, ho3⟩
  have HC3 := Lib.hid hc3; clear hc3
  have HO3 := Lib.hid (HO2.out.trans ho3); clear ho3
  go_wp2_with fail
  refine (below_any w3 _ g A n cap Z HC3.out 4 (by omega) (by omega)).mono ?_
  rintro e w4 ⟨y, rfl, hy, hc4, ho4⟩
  have HC4 := Lib.hid hc4; clear hc4
  have HO4 := Lib.hid (HO3.out.trans ho4); clear ho4
  go_wp2_with fail
  refine (text_int w4 _ g A n cap Z HC4.out y 4 hy (by omega) ⟨#[97, 98]⟩ (by decide) (by decide)).mono ?_
  rintro e w5 ⟨t, rfl, ht, hc5, ho5⟩
  have HO5 := Lib.hid (HO4.out.trans ho5); clear ho5 hc5
  go_wp2_with fail
  go_ret2
  exact ⟨s, t, rfl, by omega, by omega, HB1.out.trans (HO5.out.below HC1.out.1 HB1.out.size)⟩

set_option maxRecDepth 100000 in
set_option maxHeartbeats 2000000 in
theorem drawUpper (w : World) (A : Option Addr) (n cap : Nat) (Z : Nat → Int) (hn : n ≤ 9223372036854775807) (hb : Bytes w w.heap.size A n Z) :
    Calls Tryd.prog 18 #[.slice A n cap] w (TxtOne 20 w) := by
  have HB := Lib.hid hb; clear hb
  go_enter Tryd.func18, Tryd.ntmps18
  go_wp2_with fail
  refine (new_any w A n cap Z hn HB.out).mono ?_
  rintro e w1 ⟨g, rfl, hc1, hb1⟩
  have HC1 := Lib.hid hc1; clear hc1
  have HB1 := Lib.hid hb1; clear hb1
  go_wp2_with fail
  refine (below_any w1 _ g A n cap Z HC1.out 12 (by omega) (by omega)).mono ?_
  rintro e w2 ⟨x, rfl, hx, hc2, ho2⟩
  have HC2 := Lib.hid hc2; clear hc2
  have HO2 := Lib.hid ho2; clear ho2
  go_wp2_with fail
  refine (text_int w2 _ g A n cap Z HC2.out x 12 hx (by omega) _ (by decide) (by decide)).mono ?_
  rintro e w3 ⟨s, rfl, hs, hc3, ho3⟩
  have HO3 := Lib.hid (HO2.out.trans ho3); clear ho3 hc3
  go_wp2_with fail
  go_ret
  exact ⟨s, rfl, by omega, HB1.out.trans (HO3.out.below HC1.out.1 HB1.out.size)⟩

set_option maxRecDepth 100000 in
set_option maxHeartbeats 2000000 in
theorem drawSubText (w : World) (A : Option Addr) (n cap : Nat) (Z : Nat → Int) (hn : n ≤ 9223372036854775807) (hb : Bytes w w.heap.size A n Z) :
    Calls Tryd.prog 19 #[.slice A n cap] w (TxtNums w) := by
  have HB := Lib.hid hb; clear hb
  go_enter Tryd.func19, Tryd.ntmps19
  go_wp2_with fail
  refine (new_any w A n cap Z hn HB.out).mono ?_
  rintro e w1 ⟨g, rfl, hc1, hb1⟩
  have HC1 := Lib.hid hc1; clear hc1
  have HB1 := Lib.hid hb1; clear hb1
  go_wp2_with fail
  refine (below_any w1 _ g A n cap Z HC1.out 9 (by omega) (by omega)).mono ?_
  rintro e w2 ⟨x, rfl, hx, hc2, ho2⟩
  have HC2 := Lib.hid hc2; clear hc2
  have HO2 := Lib.hid ho2; clear ho2
  go_wp2_with fail
  refine (text_int w2 _ g A n cap Z HC2.out x 9 hx (by omega) ⟨#[97, 98, 99]⟩ (by decide) (by decide)).mono ?_
  rintro e w3 ⟨s, rfl, hs, hc3, ho3⟩
  have HC3 := Lib.hid hc3; clear hc3
  have HO3 := Lib.hid (HO2.out.trans ho3); clear ho3
  go_wp2_with fail
  refine (below_any w3 _ g A n cap Z HC3.out 14 (by omega) (by omega)).mono ?_
  rintro e w4 ⟨y, rfl, hy, hc4, ho4⟩
  have HC4 := Lib.hid hc4; clear hc4
  have HO4 := Lib.hid (HO3.out.trans ho4); clear ho4
  have hgl := HC4.out.lt
  go_wp2_with fail
  refine (pick_new w4 _ g A n cap Z HC4.out hgl [0, 1, 2, 3, 20, -1, 9000000000000] _ rfl 7 rfl (by omega) (by omega) I64 (by unfold I64; intro x hx; simp at hx; omega)).mono ?_
  rintro e w5 ⟨q, rfl, hq, hc5, ho5⟩
  have HO5 := Lib.hid (HO4.out.trans ho5); clear ho5 hc5
  have HQ := Lib.hid hq; clear hq
  go_wp2_with fail
  go_ret3
  exact ⟨s, y - 3, q, rfl, by omega, ⟨by omega, by omega⟩, HQ.out, HB1.out.trans (HO5.out.below HC1.out.1 HB1.out.size)⟩

end Go.Proofs.YthaedmldlenhgaaDoor.Draw
