/-
  The model's functions that draw a text of a number, or nearly so; what a value made of a text says.
-/
import Derived.Test.YthaedmldlenhgaaDoorDrawTexts
import Derived.Test.YthaedmldlenhgaaDoorRound
import Derived.Test.YthaedmldlenhgaaDoorCellPure
import Derived.Test.YthaedmldlenhgaaDoorCell
import Derived.Test.YthaedmldlenhgaaDoorDecText
namespace Go.Proofs.YthaedmldlenhgaaDoor.Draw
open Go.ChangeShapes Go.WideShapes Go.ChangeAt Go.RowKit
open Go.PlainAid Go.Proofs.YthaedmldlenhgaaDoor.Dec
open Go.Proofs.YthaedmldlenhgaaDoor.DecPure Go.Proofs.YthaedmldlenhgaaDoor.ReadPure Go.Proofs.YthaedmldlenhgaaDoor.TextPure Go.Proofs.YthaedmldlenhgaaDoor.CellPure Go.Proofs.YthaedmldlenhgaaDoor.Cell Go.Proofs.YthaedmldlenhgaaDoor.RoundPure
set_option linter.unusedVariables false

theorem dt_size (n : Int) : (dtB n).size ≤ 28 := by
  unfold dtB; split
  · rename_i h
    have h1 := head_size n h
    have h2 := fracL_size n
    rw [textB_head, ByteArray.size_append]; omega
  · decide
theorem dt_back {n : Int} (hn : dOk n = true) : rdN (dtB n) = n ∧ looksB (dtB n) = true := by
  have e : dtB n = strOfNums ([] ++ tL n ++ []) := by rw [dtB, if_pos hn, textB_nums]; simp
  have sp0 : ∀ x ∈ ([] : List Int), spB x = true := by intro x hx; cases hx
  obtain ⟨c1, c2, c3, c4⟩ := read_back [] [] sp0 sp0 n hn _ e
  exact ⟨c1, looks_of (by simp; omega) c2 c3⟩
theorem f_facts {s : ByteArray} (hz : s.size ≤ 500) : cOk (fT s) (fN s) (fS s) = true ∧ cStr (fT s) (fN s) (fS s) = s ∧ cNum (fT s) (fN s) (fS s) = rdN s ∧ (fT s == 3) = looksB s := by
  cases hl : looksB s with
  | true =>
    obtain ⟨e1, e2, e3⟩ := f_num hz hl
    rw [e1, e2, e3]
    have ho : cOk 3 (rdN s) s = true := by rw [cOk_3 hz, hl]; simp
    exact ⟨ho, by unfold cStr; rw [if_pos ho]; rfl, by rw [cNum_yes ho]; exact numOf_n (by omega), rfl⟩
  | false =>
    obtain ⟨e1, e2, e3⟩ := f_str hz hl
    rw [e1, e2, e3]
    have ho : cOk 2 0 s = true := by rw [cOk_2 hz]; rfl
    exact ⟨ho, by unfold cStr; rw [if_pos ho]; rfl, by rw [cNum_yes ho]; exact numOf_2, rfl⟩

set_option maxRecDepth 100000 in
set_option maxHeartbeats 2000000 in
theorem drawReadDec (w : World) (A : Option Addr) (n cap : Nat) (Z : Nat → Int) (hn : n ≤ 9223372036854775807) (hb : Bytes w w.heap.size A n Z) :
    Calls Tryd.prog 26 #[.slice A n cap] w (TxtOne 100 w) := by
  have HB := Lib.hid hb; clear hb
  go_enter Tryd.func26, Tryd.ntmps26
  go_wp2_with fail
  refine (new_any w A n cap Z hn HB.out).mono ?_
  rintro e w1 ⟨g, rfl, hc1, hb1⟩
  have HC1 := Lib.hid hc1; clear hc1
  have HB1 := Lib.hid hb1; clear hb1
  go_wp2_with fail
  refine (below_any w1 _ g A n cap Z HC1.out 3 (by omega) (by omega)).mono ?_
  rintro e w2 ⟨x, rfl, hx, hc2, ho2⟩
  have HC2 := Lib.hid hc2; clear hc2
  have HO2 := Lib.hid ho2; clear ho2
  go_wp2_with fail
  refine (text_int w2 _ g A n cap Z HC2.out x 3 hx (by omega) ⟨#[32, 9, 10]⟩ (by decide) (by decide)).mono ?_
  rintro e w3 ⟨s, rfl, hs, hc3, ho3⟩
  have HC3 := Lib.hid hc3; clear hc3
  have HO3 := Lib.hid (HO2.out.trans ho3); clear ho3
  go_wp2_with fail
  refine (num_any w3 _ g A n cap Z HC3.out).mono ?_
  rintro e w4 ⟨y, rfl, hy, hc4, ho4⟩
  have HC4 := Lib.hid hc4; clear hc4
  have HO4 := Lib.hid (HO3.out.trans ho4); clear ho4
  have hdt := fun W => spec_text y W
  have hdz := dt_size y
  generalize dtB y = d at *
  have HDT := Lib.hid hdt; clear hdt hy
  go_wp2_with fail
  refine (HDT.out _).mono ?_
  rintro e w5 ⟨rfl, hB⟩
  have HC5 := Lib.hid (HC4.out.below hB)
  have HO5 := Lib.hid (HO4.out.trans (Only.of_below hB)); clear hB
  have hsd : (s ++ d).size ≤ 31 := by rw [ByteArray.size_append]; omega
  go_wp2_with fail
  refine (below_any w5 _ g A n cap Z HC5.out 4 (by omega) (by omega)).mono ?_
  rintro e w6 ⟨q, rfl, hq, hc6, ho6⟩
  have HC6 := Lib.hid hc6; clear hc6
  have HO6 := Lib.hid (HO5.out.trans ho6); clear ho6
  generalize s ++ d = sd at *
  have hcs : q = 0 ∨ q = 1 ∨ q = 2 ∨ 3 ≤ q := by omega
  rcases hcs with rfl | rfl | rfl | hq3
  · go_wp2_with fail
    refine (below_any w6 _ g A n cap Z HC6.out 4 (by omega) (by omega)).mono ?_
    rintro e w7 ⟨u, rfl, hu, hc7, ho7⟩
    have HC7 := Lib.hid hc7; clear hc7
    have HO7 := Lib.hid (HO6.out.trans ho7); clear ho7
    go_wp2_with fail
    refine (text_int w7 _ g A n cap Z HC7.out u 4 hu (by omega) _ (by decide) (by decide)).mono ?_
    rintro e w8 ⟨t, rfl, ht, hc8, ho8⟩
    have HO8 := Lib.hid (HO7.out.trans ho8); clear ho8 hc8
    go_wp2_with fail
    go_ret
    exact ⟨_, rfl, by rw [ByteArray.size_append]; omega, HB1.out.trans (HO8.out.below HC1.out.1 HB1.out.size)⟩
  · go_wp2_with fail
    refine (below_any w6 _ g A n cap Z HC6.out 9 (by omega) (by omega)).mono ?_
    rintro e w7 ⟨u, rfl, hu, hc7, ho7⟩
    have HC7 := Lib.hid hc7; clear hc7
    have HO7 := Lib.hid (HO6.out.trans ho7); clear ho7
    go_wp2_with fail
    refine (text_int w7 _ g A n cap Z HC7.out u 9 hu (by omega) _ (by decide) (by decide)).mono ?_
    rintro e w8 ⟨t, rfl, ht, hc8, ho8⟩
    have HO8 := Lib.hid (HO7.out.trans ho8); clear ho8 hc8
    go_wp2_with fail
    go_ret
    exact ⟨_, rfl, by omega, HB1.out.trans (HO8.out.below HC1.out.1 HB1.out.size)⟩
  · go_wp2_with fail
    refine (bend_any w6 _ g A n cap Z HC6.out sd (by omega)).mono ?_
    rintro e w8 ⟨t, rfl, ht, hc8, ho8⟩
    have HO8 := Lib.hid (HO6.out.trans ho8); clear ho8 hc8
    go_wp2_with fail
    go_ret
    exact ⟨_, rfl, by omega, HB1.out.trans (HO8.out.below HC1.out.1 HB1.out.size)⟩
  · have e0 : (q == 0) = false := by simp; omega
    have e1 : (q == 1) = false := by simp; omega
    have e2 : (q == 2) = false := by simp; omega
    go_wp2_with fail
    go_ret
    exact ⟨_, rfl, by omega, HB1.out.trans (HO6.out.below HC1.out.1 HB1.out.size)⟩

set_option maxRecDepth 100000 in
set_option maxHeartbeats 2000000 in
theorem drawFieldCell (w : World) (A : Option Addr) (n cap : Nat) (Z : Nat → Int) (hn : n ≤ 9223372036854775807) (hb : Bytes w w.heap.size A n Z) :
    Calls Tryd.prog 5 #[.slice A n cap] w (TxtOne 600 w) := by
  have HB := Lib.hid hb; clear hb
  go_enter Tryd.func5, Tryd.ntmps5
  go_wp2_with fail
  refine (new_any w A n cap Z hn HB.out).mono ?_
  rintro e w1 ⟨g, rfl, hc1, hb1⟩
  have HC1 := Lib.hid hc1; clear hc1
  have HB1 := Lib.hid hb1; clear hb1
  go_wp2_with fail
  refine (once_any w1 _ g A n cap Z HC1.out 20 (by omega) (by omega)).mono ?_
  rintro e w2 ⟨b, rfl, hc2, ho2⟩
  have HC2 := Lib.hid hc2; clear hc2
  have HO2 := Lib.hid ho2; clear ho2
  cases b with
  | true =>
    go_wp2_with fail
    refine (below_any w2 _ g A n cap Z HC2.out 2 (by omega) (by omega)).mono ?_
    rintro e w3 ⟨x, rfl, hx, hc3, ho3⟩
    have HC3 := Lib.hid hc3; clear hc3
    have HO3 := Lib.hid (HO2.out.trans ho3); clear ho3
    go_wp2_with fail
    refine (text_int w3 _ g A n cap Z HC3.out (500 + x) 502 (by omega) (by omega) ⟨#[49]⟩ (by decide) (by decide)).mono ?_
    rintro e w4 ⟨s, rfl, hs, hc4, ho4⟩
    have HO4 := Lib.hid (HO3.out.trans ho4); clear ho4 hc4
    go_wp2_with fail
    go_ret
    exact ⟨s, rfl, by omega, HB1.out.trans (HO4.out.below HC1.out.1 HB1.out.size)⟩
  | false =>
    have hbw := HB1.out.trans (HO2.out.below HC1.out.1 HB1.out.size)
    have hby : Bytes w2 w2.heap.size A n Z := fun j hj => by
      obtain ⟨b, off, e, hlt, hc, hz⟩ := HB.out j hj
      exact ⟨b, off, e, Nat.lt_of_lt_of_le hlt hbw.size, (hbw.cell (p := ⟨b, off + j, none⟩) hlt).trans hc, hz⟩
    have hd := drawReadDec w2 A n cap Z hn hby
    have HD := Lib.hid hd; clear hd hby
    have HBW := Lib.hid hbw; clear hbw
    go_wp2_with fail
    refine HD.out.mono ?_
    rintro e w3 ⟨s, rfl, hs, hB⟩
    have HB3 := Lib.hid (HBW.out.trans (hB.mono HBW.out.size)); clear hB
    go_wp2_with fail
    go_ret
    exact ⟨s, rfl, by omega, HB3.out⟩

end Go.Proofs.YthaedmldlenhgaaDoor.Draw
