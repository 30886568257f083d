/-
  For every list of bytes the law of reckoning returns true: values are reckoned with as their numbers are.
-/
import Derived.Test.YtofinndkbjcgbaaDoorFrame
import Derived.Test.YtofinndkbjcgbaaDoorCellsAlive
import Derived.Test.YtofinndkbjcgbaaDoorDrawCell
import Derived.Test.YtofinndkbjcgbaaDoorTables
import Derived.Test.YtofinndkbjcgbaaDoorDrawArith
import Derived.Deep.RegionHeld3
import Derived.Shelf.Vars
namespace Go.Proofs.YtofinndkbjcgbaaDoor.fnAriths
open Go.ChangeShapes Go.WideShapes Go.ChangeAt Go.RowKit
open Go.PlainAid
open Go.Proofs.YtofinndkbjcgbaaDoor.Dec
open Go.Proofs.YtofinndkbjcgbaaDoor.DecPure
open Go.Proofs.YtofinndkbjcgbaaDoor.TextPure
open Go.Proofs.YtofinndkbjcgbaaDoor.ReadPure
open Go.Proofs.YtofinndkbjcgbaaDoor.CellPure
open Go.Proofs.YtofinndkbjcgbaaDoor.SubPure
open Go.Proofs.YtofinndkbjcgbaaDoor.Cell
open Go.Proofs.YtofinndkbjcgbaaDoor.Draw
open Go.Proofs.YtofinndkbjcgbaaDoor.Frame
set_option linter.unusedVariables false

set_option maxRecDepth 100000 in
set_option maxHeartbeats 4000000 in
theorem walk (A : Option Addr) (n cap : Nat) (Z : Nat → Int) (hn : n ≤ 9223372036854775807) (w : World) (hby : Bytes w w.heap.size A n Z) (htab : Go.Proofs.YtofinndkbjcgbaaDoor.Dec.Tables w) (hm : Held w) :
    Calls Tryd.prog 9 #[.slice A n cap] w fun e w' => e = .returned (.bool true) ∧ Below w.heap.size w w' := by
  have HT := Lib.hid htab; clear htab
  have HM := Lib.hid hm; clear hm
  have HB0 := Lib.hid (Below.refl w.heap.size w)
  have hal : ∀ W, Go.Proofs.YtofinndkbjcgbaaDoor.Dec.Tables W → Held W → Calls Tryd.prog 27 #[] W fun e w' => e = .returned (.bool true) ∧ Below W.heap.size W w' := fun W hW hH => cells_alive W hW hH
  have HAL := Lib.hid hal; clear hal
  have hdr := drawArith w A n cap Z hn hby
  have HDR := Lib.hid hdr; clear hdr hby
  have hgu := eq_guard
  have HGU := Lib.hid hgu; clear hgu
  go_enter Tryd.func9, Tryd.ntmps9
  go_wp2_with fail
  refine HDR.out.mono ?_
  rintro e w1 ⟨q, t, k, s, t', k', s', rfl, hs, hs', hB⟩
  have HX0 := Lib.hid ((CB.new w1 (.int .i64 t) (.int .i64 k) (.string s)).keep ((Below.refl _ _).alloc (Nat.le_refl _) (.cells #[.int .i64 t', .int .i64 k', .string s'] 38)) (by simp))
  have hy := CB.new (w1.alloc (.cells #[.int .i64 t, .int .i64 k, .string s] 38)) (.int .i64 t') (.int .i64 k') (.string s')
  simp only [World.size_alloc] at hy
  have HY0 := Lib.hid hy; clear hy
  have hB1 := hB.alloc hB.size (.cells #[.int .i64 t, .int .i64 k, .string s] 38)
  have HB1 := Lib.hid (hB1.alloc hB1.size (.cells #[.int .i64 t', .int .i64 k', .string s'] 38)); clear hB hB1
  have hz : s.size ≤ 1048576 := by omega
  have hz' : s'.size ≤ 1048576 := by omega
  clear hs hs'
  have him : ∀ W, Calls Tryd.prog 29 #[.int .i64 q, cel t k s, cel t' k' s'] W (ArIs q t k s t' k' s' W) := fun W => impl_arith q t k s t' k' s' hz hz' W
  have hsp : ∀ W, Calls Tryd.prog 30 #[.int .i64 q, cel t k s, cel t' k' s'] W (ArIs q t k s t' k' s' W) := fun W => spec_arith q t k s t' k' s' hz hz' W
  have hna : ∀ W, Calls Tryd.prog 31 #[cel t k s] W fun e w' => e = .returned (.int .i64 (cNum t k s)) ∧ Below W.heap.size W w' := fun W => impl_toNum t k s hz W
  have hnb : ∀ W, Calls Tryd.prog 31 #[cel t' k' s'] W fun e w' => e = .returned (.int .i64 (cNum t' k' s')) ∧ Below W.heap.size W w' := fun W => impl_toNum t' k' s' hz' W
  unfold ArIs at him hsp
  have hbad : arC q t k s t' k' s' ≠ 0 → arT q t k s t' k' s' = 0 ∧ arN q t k s t' k' s' = 0 := ar_none
  have hgood := @ar_facts q t k s t' k' s'
  have hag : ∀ W, Calls Tryd.prog 29 #[.int .i64 q, cel 1 (cNum t k s) ⟨#[]⟩, cel 1 (cNum t' k' s') ⟨#[]⟩] W (ArIs q 1 (cNum t k s) ⟨#[]⟩ 1 (cNum t' k' s') ⟨#[]⟩ W) := fun W => impl_arith q 1 (cNum t k s) ⟨#[]⟩ 1 (cNum t' k' s') ⟨#[]⟩ (by decide) (by decide) W
  unfold ArIs at hag
  generalize arT q 1 (cNum t k s) ⟨#[]⟩ 1 (cNum t' k' s') ⟨#[]⟩ = aT at *
  generalize arN q 1 (cNum t k s) ⟨#[]⟩ 1 (cNum t' k' s') ⟨#[]⟩ = aN at *
  generalize arC q 1 (cNum t k s) ⟨#[]⟩ 1 (cNum t' k' s') ⟨#[]⟩ = aC at *
  generalize arT q t k s t' k' s' = rT at *
  generalize arN q t k s t' k' s' = rN at *
  generalize arC q t k s t' k' s' = rC at *
  generalize cNum t k s = x at *
  generalize cNum t' k' s' = y at *
  have HIM := Lib.hid him; clear him
  have HSP := Lib.hid hsp; clear hsp
  have HNA := Lib.hid hna; clear hna
  have HNB := Lib.hid hnb; clear hnb
  have HAG := Lib.hid hag; clear hag
  have HBAD := Lib.hid hbad; clear hbad
  have HGOOD := Lib.hid hgood; clear hgood
  obtain ⟨a0, a1, a2⟩ := HX0.out.cells
  obtain ⟨b0, b1, b2⟩ := HY0.out.cells
  go_wp2_with fail
  refine (HIM.out _).mono ?_
  rintro e w2 ⟨rfl, hB⟩
  have hx := HX0.out.next hB
  have hy := HY0.out.next hB
  have HX2 := Lib.hid (hx.keep ((Below.refl w2.heap.size w2).alloc (Nat.le_refl _) (.cells #[.int .i64 rT, .int .i64 rN, .string ⟨#[]⟩] 38)) hx.lt)
  have HY2 := Lib.hid (hy.keep ((Below.refl w2.heap.size w2).alloc (Nat.le_refl _) (.cells #[.int .i64 rT, .int .i64 rN, .string ⟨#[]⟩] 38)) hy.lt)
  have HC2 := Lib.hid (CB.new w2 (.int .i64 rT) (.int .i64 rN) (.string ⟨#[]⟩))
  have hB2 := HB1.out.trans (hB.mono HB1.out.size)
  have HB2 := Lib.hid (hB2.alloc hB2.size (.cells #[.int .i64 rT, .int .i64 rN, .string ⟨#[]⟩] 38)); clear hB hB2 hx hy a0 a1 a2 b0 b1 b2
  obtain ⟨a0, a1, a2⟩ := HX2.out.cells
  obtain ⟨b0, b1, b2⟩ := HY2.out.cells
  go_wp2_with fail
  generalize w2.alloc (.cells #[.int .i64 rT, .int .i64 rN, .string ⟨#[]⟩] 38) = v2 at *
  generalize w2.heap.size = gc at *
  refine (HSP.out _).mono ?_
  rintro e w3 ⟨rfl, hB⟩
  have hx := HX2.out.next hB
  have hy := HY2.out.next hB
  have hc := HC2.out.next hB
  have HX3 := Lib.hid (hx.keep ((Below.refl w3.heap.size w3).alloc (Nat.le_refl _) (.cells #[.int .i64 rT, .int .i64 rN, .string ⟨#[]⟩] 38)) hx.lt)
  have HY3 := Lib.hid (hy.keep ((Below.refl w3.heap.size w3).alloc (Nat.le_refl _) (.cells #[.int .i64 rT, .int .i64 rN, .string ⟨#[]⟩] 38)) hy.lt)
  have HC3 := Lib.hid (hc.keep ((Below.refl w3.heap.size w3).alloc (Nat.le_refl _) (.cells #[.int .i64 rT, .int .i64 rN, .string ⟨#[]⟩] 38)) hc.lt)
  have hB3 := HB2.out.trans (hB.mono HB2.out.size)
  have HB3 := Lib.hid (hB3.alloc hB3.size (.cells #[.int .i64 rT, .int .i64 rN, .string ⟨#[]⟩] 38)); clear hB hB3 hx hy hc a0 a1 a2 b0 b1 b2
  obtain ⟨a0, a1, a2⟩ := HX3.out.cells
  obtain ⟨b0, b1, b2⟩ := HY3.out.cells
  obtain ⟨c0, c1, c2⟩ := HC3.out.cells
  by_cases hr : rC = 0
  · subst hr
    obtain ⟨rfl, rfl, rfl, rfl, hok⟩ := HGOOD.out rfl
    by_cases hN : aN = 0
    · subst hN
      have hck : ∀ W, Calls Tryd.prog 32 #[cel 1 0 ⟨#[]⟩] W fun e w' => e = .returned (.bool true) ∧ Below W.heap.size W w' := fun W => by have := impl_cellOk 1 0 ⟨#[]⟩ (by decide) W; rw [hok] at this; exact this
      have htr : ∀ W, Calls Tryd.prog 33 #[cel 1 0 ⟨#[]⟩] W fun e w' => e = .returned (.bool false) ∧ Below W.heap.size W w' := fun W => by have := impl_truth 1 0 ⟨#[]⟩ (by decide) W; rw [cTru_n (by omega) hok] at this; exact this
      have HCK := Lib.hid hck; clear hck
      have HTR := Lib.hid htr; clear htr hok HGOOD HBAD
      go_wp2_with fail
      generalize w3.alloc (.cells #[.int .i64 1, .int .i64 0, .string ⟨#[]⟩] 38) = v3 at *
      generalize w3.heap.size = gw at *
      refine (HNA.out _).mono ?_
      rintro e w4 ⟨rfl, hB⟩
      have hx := HY3.out.next hB
      have hc := HC3.out.next hB
      have HY4 := Lib.hid (hx.keep ((Below.refl w4.heap.size w4).alloc (Nat.le_refl _) (.cells #[.int .i64 1, .int .i64 x, .string ⟨#[]⟩] 38)) hx.lt)
      have HC4 := Lib.hid (hc.keep ((Below.refl w4.heap.size w4).alloc (Nat.le_refl _) (.cells #[.int .i64 1, .int .i64 x, .string ⟨#[]⟩] 38)) hc.lt)
      have HP4 := Lib.hid (CB.new w4 (.int .i64 1) (.int .i64 x) (.string ⟨#[]⟩))
      have hB4 := HB3.out.trans (hB.mono HB3.out.size)
      have HB4 := Lib.hid (hB4.alloc hB4.size (.cells #[.int .i64 1, .int .i64 x, .string ⟨#[]⟩] 38)); clear hB hB4 hx hc a0 a1 a2 b0 b1 b2 c0 c1 c2
      obtain ⟨b0, b1, b2⟩ := HY4.out.cells
      go_wp2_with fail
      generalize w4.alloc (.cells #[.int .i64 1, .int .i64 x, .string ⟨#[]⟩] 38) = v4 at *
      generalize w4.heap.size = gp at *
      refine (HNB.out _).mono ?_
      rintro e w5 ⟨rfl, hB⟩
      have hp := HP4.out.next hB
      have hc := HC4.out.next hB
      have HP5 := Lib.hid (hp.keep ((Below.refl w5.heap.size w5).alloc (Nat.le_refl _) (.cells #[.int .i64 1, .int .i64 y, .string ⟨#[]⟩] 38)) hp.lt)
      have HC5 := Lib.hid (hc.keep ((Below.refl w5.heap.size w5).alloc (Nat.le_refl _) (.cells #[.int .i64 1, .int .i64 y, .string ⟨#[]⟩] 38)) hc.lt)
      have HQ5 := Lib.hid (CB.new w5 (.int .i64 1) (.int .i64 y) (.string ⟨#[]⟩))
      have hB5 := HB4.out.trans (hB.mono HB4.out.size)
      have HB5 := Lib.hid (hB5.alloc hB5.size (.cells #[.int .i64 1, .int .i64 y, .string ⟨#[]⟩] 38)); clear hB hB5 hp hc b0 b1 b2
      obtain ⟨a0, a1, a2⟩ := HP5.out.cells
      obtain ⟨b0, b1, b2⟩ := HQ5.out.cells
      go_wp2_with fail
      generalize w5.alloc (.cells #[.int .i64 1, .int .i64 y, .string ⟨#[]⟩] 38) = v5 at *
      generalize w5.heap.size = gq at *
      refine (HAG.out _).mono ?_
      rintro e w6 ⟨rfl, hB⟩
      have hc := HC5.out.next hB
      have HC6 := Lib.hid (hc.keep ((Below.refl w6.heap.size w6).alloc (Nat.le_refl _) (.cells #[.int .i64 1, .int .i64 0, .string ⟨#[]⟩] 38)) hc.lt)
      have HD6 := Lib.hid (CB.new w6 (.int .i64 1) (.int .i64 0) (.string ⟨#[]⟩))
      have hB6 := HB5.out.trans (hB.mono HB5.out.size)
      have HB6 := Lib.hid (hB6.alloc hB6.size (.cells #[.int .i64 1, .int .i64 0, .string ⟨#[]⟩] 38)); clear hB hB6 hc a0 a1 a2 b0 b1 b2
      go_wp2_with fail
      generalize w6.alloc (.cells #[.int .i64 1, .int .i64 0, .string ⟨#[]⟩] 38) = w7 at *
      generalize w6.heap.size = gd at *
      have HB7 := Lib.hid HB6.out
      obtain ⟨a0, a1, a2⟩ := HC6.out.cells
      obtain ⟨b0, b1, b2⟩ := HD6.out.cells
      have heq : ∀ W, (Op.equalIn 10000 38 (.agg #[.int .i64 1, .int .i64 0, .string ⟨#[]⟩]) (.agg #[.int .i64 1, .int .i64 0, .string ⟨#[]⟩])).run Tryd.prog W = .ok true W := fun W => by
        rw [eq_cells, show cellsSame 1 0 ⟨#[]⟩ 1 0 ⟨#[]⟩ = true from decide_eq_true ⟨rfl, rfl, rfl⟩]
      have hgu := HGU.out
      have la := HC6.out.lt
      have lb := HD6.out.lt
      have hD : Below w7.heap.size w7 w7.drew := (Below.refl _ _).drew
      have hk : ∀ w', Below w7.heap.size w7 w' → Below w7.heap.size w7 w' ∧ w'.cell? ⟨gc, 0, none⟩ = some (.int .i64 1) ∧ w'.cell? ⟨gc, 1, none⟩ = some (.int .i64 0) ∧ w'.cell? ⟨gc, 2, none⟩ = some (.string ⟨#[]⟩) ∧ w'.cell? ⟨gd, 0, none⟩ = some (.int .i64 1) ∧ w'.cell? ⟨gd, 1, none⟩ = some (.int .i64 0) ∧ w'.cell? ⟨gd, 2, none⟩ = some (.string ⟨#[]⟩) := fun w' h => ⟨h, (h.cell (p := ⟨gc, 0, none⟩) la).trans a0, (h.cell (p := ⟨gc, 1, none⟩) la).trans a1, (h.cell (p := ⟨gc, 2, none⟩) la).trans a2, (h.cell (p := ⟨gd, 0, none⟩) lb).trans b0, (h.cell (p := ⟨gd, 1, none⟩) lb).trans b1, (h.cell (p := ⟨gd, 2, none⟩) lb).trans b2⟩
      have HK := Lib.hid hk; clear hk
      go_region_held3 (fun w' => Below w7.heap.size w7 w' ∧ w'.cell? ⟨gc, 0, none⟩ = some (.int .i64 1) ∧ w'.cell? ⟨gc, 1, none⟩ = some (.int .i64 0) ∧ w'.cell? ⟨gc, 2, none⟩ = some (.string ⟨#[]⟩) ∧ w'.cell? ⟨gd, 0, none⟩ = some (.int .i64 1) ∧ w'.cell? ⟨gd, 1, none⟩ = some (.int .i64 0) ∧ w'.cell? ⟨gd, 2, none⟩ = some (.string ⟨#[]⟩))
        (first | exact HK.out _ hD | exact HK.out _ hwx0 | exact HK.out _ hwx1 | exact HK.out _ hwx2)
        (first
          | (go_at_call 32; refine (HCK.out w7.drew).mono ?_; rintro e wx0 ⟨rfl, hB⟩; have hwx0 : Below w7.heap.size w7 wx0 := below_go hD hB; clear hB)
          | (go_at_call 33; refine (HTR.out wx0).mono ?_; rintro e wx1 ⟨rfl, hB⟩; have hwx1 : Below w7.heap.size w7 wx1 := below_go hwx0 hB; clear hB)
          | (go_at_call 27; refine (HAL.out wx1 (HT.out.below (HB7.out.trans (hwx1.mono HB7.out.size))) (HM.out.below (HB7.out.trans (hwx1.mono HB7.out.size)))).mono ?_; rintro e wx2 ⟨rfl, hB⟩; have hwx2 : Below w7.heap.size w7 wx2 := below_go hwx1 hB; clear hB)
        )
      have HBf := Lib.hid (HB7.out.trans (hwx2.mono HB7.out.size))
      go_wp2_with fail
      go_ret
      exact ⟨rfl, HBf.out⟩
    · have hnb : (aN == 0) = false := by simpa using hN
      have hnc : (aN != 0) = true := by simpa using hN
      have hck : ∀ W, Calls Tryd.prog 32 #[cel 1 aN ⟨#[]⟩] W fun e w' => e = .returned (.bool true) ∧ Below W.heap.size W w' := fun W => by have := impl_cellOk 1 aN ⟨#[]⟩ (by decide) W; rw [hok] at this; exact this
      have htr : ∀ W, Calls Tryd.prog 33 #[cel 1 aN ⟨#[]⟩] W fun e w' => e = .returned (.bool true) ∧ Below W.heap.size W w' := fun W => by have := impl_truth 1 aN ⟨#[]⟩ (by decide) W; rw [cTru_n (by omega) hok, hnb] at this; exact this
      have HCK := Lib.hid hck; clear hck
      have HTR := Lib.hid htr; clear htr hok HGOOD HBAD
      go_wp2_with fail
      generalize w3.alloc (.cells #[.int .i64 1, .int .i64 aN, .string ⟨#[]⟩] 38) = v3 at *
      generalize w3.heap.size = gw at *
      refine (HNA.out _).mono ?_
      rintro e w4 ⟨rfl, hB⟩
      have hx := HY3.out.next hB
      have hc := HC3.out.next hB
      have HY4 := Lib.hid (hx.keep ((Below.refl w4.heap.size w4).alloc (Nat.le_refl _) (.cells #[.int .i64 1, .int .i64 x, .string ⟨#[]⟩] 38)) hx.lt)
      have HC4 := Lib.hid (hc.keep ((Below.refl w4.heap.size w4).alloc (Nat.le_refl _) (.cells #[.int .i64 1, .int .i64 x, .string ⟨#[]⟩] 38)) hc.lt)
      have HP4 := Lib.hid (CB.new w4 (.int .i64 1) (.int .i64 x) (.string ⟨#[]⟩))
      have hB4 := HB3.out.trans (hB.mono HB3.out.size)
      have HB4 := Lib.hid (hB4.alloc hB4.size (.cells #[.int .i64 1, .int .i64 x, .string ⟨#[]⟩] 38)); clear hB hB4 hx hc a0 a1 a2 b0 b1 b2 c0 c1 c2
      obtain ⟨b0, b1, b2⟩ := HY4.out.cells
      go_wp2_with fail
      generalize w4.alloc (.cells #[.int .i64 1, .int .i64 x, .string ⟨#[]⟩] 38) = v4 at *
      generalize w4.heap.size = gp at *
      refine (HNB.out _).mono ?_
      rintro e w5 ⟨rfl, hB⟩
      have hp := HP4.out.next hB
      have hc := HC4.out.next hB
      have HP5 := Lib.hid (hp.keep ((Below.refl w5.heap.size w5).alloc (Nat.le_refl _) (.cells #[.int .i64 1, .int .i64 y, .string ⟨#[]⟩] 38)) hp.lt)
      have HC5 := Lib.hid (hc.keep ((Below.refl w5.heap.size w5).alloc (Nat.le_refl _) (.cells #[.int .i64 1, .int .i64 y, .string ⟨#[]⟩] 38)) hc.lt)
      have HQ5 := Lib.hid (CB.new w5 (.int .i64 1) (.int .i64 y) (.string ⟨#[]⟩))
      have hB5 := HB4.out.trans (hB.mono HB4.out.size)
      have HB5 := Lib.hid (hB5.alloc hB5.size (.cells #[.int .i64 1, .int .i64 y, .string ⟨#[]⟩] 38)); clear hB hB5 hp hc b0 b1 b2
      obtain ⟨a0, a1, a2⟩ := HP5.out.cells
      obtain ⟨b0, b1, b2⟩ := HQ5.out.cells
      go_wp2_with fail
      generalize w5.alloc (.cells #[.int .i64 1, .int .i64 y, .string ⟨#[]⟩] 38) = v5 at *
      generalize w5.heap.size = gq at *
      refine (HAG.out _).mono ?_
      rintro e w6 ⟨rfl, hB⟩
      have hc := HC5.out.next hB
      have HC6 := Lib.hid (hc.keep ((Below.refl w6.heap.size w6).alloc (Nat.le_refl _) (.cells #[.int .i64 1, .int .i64 aN, .string ⟨#[]⟩] 38)) hc.lt)
      have HD6 := Lib.hid (CB.new w6 (.int .i64 1) (.int .i64 aN) (.string ⟨#[]⟩))
      have hB6 := HB5.out.trans (hB.mono HB5.out.size)
      have HB6 := Lib.hid (hB6.alloc hB6.size (.cells #[.int .i64 1, .int .i64 aN, .string ⟨#[]⟩] 38)); clear hB hB6 hc a0 a1 a2 b0 b1 b2
      go_wp2_with fail
      generalize w6.alloc (.cells #[.int .i64 1, .int .i64 aN, .string ⟨#[]⟩] 38) = w7 at *
      generalize w6.heap.size = gd at *
      have HB7 := Lib.hid HB6.out
      obtain ⟨a0, a1, a2⟩ := HC6.out.cells
      obtain ⟨b0, b1, b2⟩ := HD6.out.cells
      have heq : ∀ W, (Op.equalIn 10000 38 (.agg #[.int .i64 1, .int .i64 aN, .string ⟨#[]⟩]) (.agg #[.int .i64 1, .int .i64 aN, .string ⟨#[]⟩])).run Tryd.prog W = .ok true W := fun W => by
        rw [eq_cells, show cellsSame 1 aN ⟨#[]⟩ 1 aN ⟨#[]⟩ = true from decide_eq_true ⟨rfl, rfl, rfl⟩]
      have hgu := HGU.out
      have la := HC6.out.lt
      have lb := HD6.out.lt
      have hD : Below w7.heap.size w7 w7.drew := (Below.refl _ _).drew
      have hk : ∀ w', Below w7.heap.size w7 w' → Below w7.heap.size w7 w' ∧ w'.cell? ⟨gc, 0, none⟩ = some (.int .i64 1) ∧ w'.cell? ⟨gc, 1, none⟩ = some (.int .i64 aN) ∧ w'.cell? ⟨gc, 2, none⟩ = some (.string ⟨#[]⟩) ∧ w'.cell? ⟨gd, 0, none⟩ = some (.int .i64 1) ∧ w'.cell? ⟨gd, 1, none⟩ = some (.int .i64 aN) ∧ w'.cell? ⟨gd, 2, none⟩ = some (.string ⟨#[]⟩) := fun w' h => ⟨h, (h.cell (p := ⟨gc, 0, none⟩) la).trans a0, (h.cell (p := ⟨gc, 1, none⟩) la).trans a1, (h.cell (p := ⟨gc, 2, none⟩) la).trans a2, (h.cell (p := ⟨gd, 0, none⟩) lb).trans b0, (h.cell (p := ⟨gd, 1, none⟩) lb).trans b1, (h.cell (p := ⟨gd, 2, none⟩) lb).trans b2⟩
      have HK := Lib.hid hk; clear hk
      go_region_held3 (fun w' => Below w7.heap.size w7 w' ∧ w'.cell? ⟨gc, 0, none⟩ = some (.int .i64 1) ∧ w'.cell? ⟨gc, 1, none⟩ = some (.int .i64 aN) ∧ w'.cell? ⟨gc, 2, none⟩ = some (.string ⟨#[]⟩) ∧ w'.cell? ⟨gd, 0, none⟩ = some (.int .i64 1) ∧ w'.cell? ⟨gd, 1, none⟩ = some (.int .i64 aN) ∧ w'.cell? ⟨gd, 2, none⟩ = some (.string ⟨#[]⟩))
        (first | exact HK.out _ hD | exact HK.out _ hwx0 | exact HK.out _ hwx1 | exact HK.out _ hwx2)
        (first
          | (go_at_call 32; refine (HCK.out w7.drew).mono ?_; rintro e wx0 ⟨rfl, hB⟩; have hwx0 : Below w7.heap.size w7 wx0 := below_go hD hB; clear hB)
          | (go_at_call 33; refine (HTR.out wx0).mono ?_; rintro e wx1 ⟨rfl, hB⟩; have hwx1 : Below w7.heap.size w7 wx1 := below_go hwx0 hB; clear hB)
          | (go_at_call 27; refine (HAL.out wx1 (HT.out.below (HB7.out.trans (hwx1.mono HB7.out.size))) (HM.out.below (HB7.out.trans (hwx1.mono HB7.out.size)))).mono ?_; rintro e wx2 ⟨rfl, hB⟩; have hwx2 : Below w7.heap.size w7 wx2 := below_go hwx1 hB; clear hB)
        )
      have HBf := Lib.hid (HB7.out.trans (hwx2.mono HB7.out.size))
      go_wp2_with fail
      go_ret
      exact ⟨rfl, HBf.out⟩

  · obtain ⟨rfl, rfl⟩ := HBAD.out hr
    have hrb : (rC == 0) = false := by simpa using hr
    have heq : ∀ W, (Op.equalIn 10000 38 (.agg #[.int .i64 0, .int .i64 0, .string ⟨#[]⟩]) (.agg #[.int .i64 0, .int .i64 0, .string ⟨#[]⟩])).run Tryd.prog W = .ok true W := fun W => by
      rw [eq_cells, show cellsSame 0 0 ⟨#[]⟩ 0 0 ⟨#[]⟩ = true from decide_eq_true ⟨rfl, rfl, rfl⟩]
    have hgu := HGU.out
    have hrn : (rC != 0) = true := by simpa using hr
    go_wp2_with fail
    refine (HAL.out _ (HT.out.below HB3.out) (HM.out.below HB3.out)).mono ?_
    rintro e w4 ⟨rfl, hB⟩
    have HB4 := Lib.hid (HB3.out.trans (hB.mono HB3.out.size)); clear hB
    go_wp2_with fail
    go_ret
    exact ⟨rfl, HB4.out⟩


set_option maxRecDepth 100000 in
theorem contract (H : Type) (enc : TypeId × Value → H) (W : World) (base : Nat) (args : Array Value) (ds gs : List (DataW H)) (before : List MemPlace)
    (hval : ∀ (j : Nat) t v, Tryd.f9.params[j]? = some t → args[j]? = some v → Value.okWide Tryd.prog W .any base t v)
    (hW : DataW.Whole enc Tryd.prog Tryd.f9.params.toList Rows.fnArithsSpec.vars false W args.toList ds gs before) (hL : laidMetH Tryd.prog Rows.fnArithsRow.laid W) (hsh : W.ShapedOpen Tryd.prog) :
    Calls Tryd.prog 9 args W fun e W' => ∃ v, e = .returned v ∧ Rows.fnArithsSpec.post enc Tryd.prog Tryd.f9 false true false false W args v W' := by
  have hHeld : Held W := cell_of_shapedOpen_int (P := Tryd.prog) (g := 0) (t := 3) (zero := #[.int .i64 0]) (k := .i64) hsh (of_decide_eq_true (by kernel_rfl)) (by kernel_rfl) rfl (by kernel_rfl) (by kernel_rfl) Tryd.underlying3
  have hW' := hW
  obtain ⟨p, q, hA0, hV, rfl, hfz, hnd⟩ := hW
  have hA : DataW.TrodAll enc Tryd.prog W 0 (fun _ => true) true Tryd.f9.params.toList args.toList ds p := hA0
  rw [Tryd.params9] at hA hval
  obtain ⟨v0, vs0, d0, ds0, p0, q0, hargs, rfl, rfl, h0, r0⟩ := trodAll_cons hA
  obtain ⟨rfl, rfl, rfl⟩ := trodAll_nil r0
  obtain rfl : args = #[v0] := by cases args; simp_all
  obtain ⟨rfl, rfl⟩ := trodVars_none hV
  have h0k := h0
  have hlt : ∀ x ∈ p0 ++ [], x.block < W.heap.size := fun x hx => by simpa using hW'.lt x (by simpa using hx)
  obtain ⟨a0, len, cap, rfl⟩ := okWide_slice Tryd.underlying43 (hval 0 43 v0 rfl rfl)
  obtain ⟨fuel, hf⟩ := h0
  have hby : ∃ Z : Nat → Int, len ≤ 9223372036854775807 ∧ Bytes W W.heap.size a0 len Z := by
    rcases open_ints Tryd.underlying43 Tryd.underlying5 (by kernel_rfl : Tryd.prog.cellsOf 5 = 1) hf with ⟨hcs, hx⟩ | ⟨a, len', cap', zs, hcs, _, hl, hm, hz, hx, hcell, hwz⟩
    · simp [Value.cells] at hcs
      obtain ⟨rfl, rfl, rfl⟩ := hcs
      exact ⟨fun _ => 0, by omega, fun j hj => by omega⟩
    · simp [Value.cells] at hcs
      obtain ⟨rfl, rfl, rfl⟩ := hcs
      simp only [if_true] at hz
      unfold maxLen at hm
      refine ⟨fun j => zs.getD j 0, by omega, fun j hj => ?_⟩
      obtain ⟨b, off, rfl, hc⟩ := ints_at hcell (by omega)
      have h1 := hc j (by omega)
      have h2 := bounds_u8 (hwz (zs.getD j 0) (by simp [List.getD, List.getElem?_eq_getElem (show j < zs.length by omega)]))
      exact ⟨b, off, rfl, World.block_lt_of_cell? W ⟨b, off + j, none⟩ h1, h1, h2.1, h2.2⟩
  obtain ⟨Z, hn, hZ⟩ := hby
  clear hA0
  simp only [List.append_nil] at hW' hlt
  refine (walk a0 len cap Z hn W hZ (tabs hL) hHeld).mono fun e W' ⟨he, hb⟩ => ?_
  subst he
  exact ⟨_, rfl, _, _, _, [], _, [], hW', trodAll_cons_mk (shut_bool Tryd.underlying4 _) trodAll_mk0, trodAll_mk1 (Below.trod laidOut (by kernel_rfl) (of_decide_eq_true (by kernel_rfl)) h0k hb hlt), rfl, hb.frame _, fun h => by cases h⟩

theorem laid_met (os : Os) : laidMet Tryd.prog Rows.fnArithsRow.laid ((laidWorld os).forCall (fun _ _ => 0) ⟨#[], #[.slice none 0 0], []⟩).memory :=
  laidMet_of_run' 80 (by kernel_rfl) (by kernel_rfl)
theorem reads (os : Os) {H : Type} (enc : TypeId × Value → H) : ∃ places, DataW.whole enc Tryd.prog ((laidWorld os).forCall (fun _ _ => 0) ⟨#[], #[.slice none 0 0], []⟩).memory Tryd.f9.params.toList Rows.fnArithsSpec.vars false #[Value.slice none 0 0].toList 8 = some ([.nil], [], places) :=
  ⟨[], by kernel_rfl⟩

set_option maxRecDepth 100000 in
theorem lifted (os : Os) (started : os.Started) (H : Type) (enc : TypeId × Value → H) (F : Stop.Interp) :
    ReturnsInHanded {} Tryd.checked os 9 .any ((OpenSpec.ofChange Rows.fnArithsSpec).preRow enc Tryd.prog Tryd.f9 Rows.fnArithsRow.domain false Rows.fnArithsRow.laid) (((OpenSpec.ofChange Rows.fnArithsSpec).at F).post enc Tryd.prog Tryd.f9 false true false false) := by
  obtain ⟨places, hx⟩ := reads os enc
  refine returnsInHanded_of_row (C := Tryd.checked) (s := OpenSpec.ofChange Rows.fnArithsSpec) own started (by kernel_rfl) Tryd.func9
    (witness_row_at (enc := enc) (C := Tryd.checked) false (laidWorld os) #[.slice none 0 0] rfl (by kernel_rfl) (by kernel_rfl) (by kernel_rfl)
      (OpenSpec.preRow_of_cond 8 hx (by kernel_rfl) (fun k hk => by cases hk) (by kernel_rfl) (laid_met os))) ?_
  intro W base args ds gs before hval hW _ _ _ hL hsh _
  exact contract H enc W base args ds gs before hval hW hL hsh

theorem said : Rows.FnArithsSaid :=
  OpenClaim.holds_of_cond 9 Tryd.f9 rfl rfl rfl rfl rfl rfl rfl ⟨rfl, rfl, rfl, rfl, rfl⟩ rfl rfl rfl rfl rfl (by kernel_rfl) Tryd.func9 (by kernel_rfl)
    (of_decide_eq_true (by kernel_rfl)) (by unfold Func.isWrapper; first | (rw [if_pos (by decide +kernel)]; kernel_rfl) | (rw [if_neg (by decide +kernel)]; exact ⟨rfl, rfl⟩))
    (fun os started H enc _ F => by rw [OpenClaim.pre_eq_preRow]; exact lifted os started H enc F)

theorem plain (f : FuncId) (fn : Func) (hf : Tryd.pinned.checked.prog.funcNamed "loop.example/g00700/laws.FnAriths" = some f) (hfn : Tryd.pinned.checked.prog.funcs[f]? = some fn) :
    false = Tryd.pinned.checked.prog.looks [] ∧ ∀ (j : Nat) t, fn.params[j]? = some t → Tryd.pinned.checked.prog.wantsStandIn t = false := by
  obtain rfl : f = 9 := Option.some.inj ((show Tryd.prog.funcNamed "loop.example/g00700/laws.FnAriths" = some 9 by kernel_rfl).symm.trans hf) |>.symm
  obtain rfl : fn = Tryd.f9 := (Option.some.inj (Tryd.func9.symm.trans hfn)).symm
  refine ⟨by kernel_rfl, fun j t ht => ?_⟩
  rw [Tryd.params9] at ht
  obtain rfl : t = 43 := by simpa using Array.mem_of_getElem? ht
  exact (show Tryd.prog.wantsStandIn 43 = false by kernel_rfl)

theorem card : Rows.FnArithsCardSaid :=
  Claim7.holds_tied_plain_at .later [] _ _ _ _ said (fun _ h => by cases h) (by kernel_rfl) (fun _ h => by cases h) fnAriths_row_tie rfl ⟨rfl, rfl⟩ (by kernel_rfl) rfl plain (by kernel_rfl)
end Go.Proofs.YtofinndkbjcgbaaDoor.fnAriths
