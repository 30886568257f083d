/-
  For every list of bytes the law of comparing returns true: two values are held against each other alike from both sides; less, the same and greater part all.
-/
import Derived.Test.YtofinndkbjcgbaaDoorFrame
import Derived.Test.YtofinndkbjcgbaaDoorCellsAlive
import Derived.Test.YtofinndkbjcgbaaDoorDrawCell
import Derived.Test.YtofinndkbjcgbaaDoorTables
import Derived.Shelf.Vars
namespace Go.Proofs.YtofinndkbjcgbaaDoor.fnCompares
open Go.ChangeShapes Go.WideShapes Go.ChangeAt Go.RowKit
open Go.PlainAid
open Go.Proofs.YtofinndkbjcgbaaDoor.Dec
open Go.Proofs.YtofinndkbjcgbaaDoor.DecPure
open Go.Proofs.YtofinndkbjcgbaaDoor.TextPure
open Go.Proofs.YtofinndkbjcgbaaDoor.ReadPure
open Go.Proofs.YtofinndkbjcgbaaDoor.CellPure
open Go.Proofs.YtofinndkbjcgbaaDoor.SubPure
open Go.Proofs.YtofinndkbjcgbaaDoor.Cell
open Go.Proofs.YtofinndkbjcgbaaDoor.Draw
open Go.Proofs.YtofinndkbjcgbaaDoor.Frame
set_option linter.unusedVariables false

set_option maxRecDepth 100000 in
set_option maxHeartbeats 4000000 in
theorem walk (A : Option Addr) (n cap : Nat) (Z : Nat → Int) (hn : n ≤ 9223372036854775807) (w : World) (hby : Bytes w w.heap.size A n Z) (htab : Go.Proofs.YtofinndkbjcgbaaDoor.Dec.Tables w) (hm : Held w) :
    Calls Tryd.prog 8 #[.slice A n cap] w fun e w' => e = .returned (.bool true) ∧ Below w.heap.size w w' := by
  have HT := Lib.hid htab; clear htab
  have HM := Lib.hid hm; clear hm
  have hdr := drawCompare w A n cap Z hn hby
  have HDR := Lib.hid hdr; clear hdr hby
  obtain ⟨Q, hQ⟩ : ∃ Q : Ending → World → Prop, Q = TwoCells w := ⟨_, rfl⟩
  rw [← hQ] at HDR
  go_enter Tryd.func8, Tryd.ntmps8
  go_wp2_with fail
  refine HDR.out.mono ?_
  rw [hQ]; clear hQ HDR
  rintro e w1 ⟨t, k, s, t', k', s', rfl, hs, hs', hB⟩
  have HX0 := Lib.hid ((CB.new w1 (.int .i64 t) (.int .i64 k) (.string s)).keep ((Below.refl _ _).alloc (Nat.le_refl _) (.cells #[.int .i64 t', .int .i64 k', .string s'] 38)) (by simp))
  have hy := CB.new (w1.alloc (.cells #[.int .i64 t, .int .i64 k, .string s] 38)) (.int .i64 t') (.int .i64 k') (.string s')
  simp only [World.size_alloc] at hy
  have HY0 := Lib.hid hy; clear hy
  have hB1 := hB.alloc hB.size (.cells #[.int .i64 t, .int .i64 k, .string s] 38)
  have HB0 := Lib.hid (hB1.alloc hB1.size (.cells #[.int .i64 t', .int .i64 k', .string s'] 38)); clear hB hB1
  have hz : s.size ≤ 1048576 := by omega
  have hz' : s'.size ≤ 1048576 := by omega
  clear hs hs'
  cases ha : cOk t k s with
  | false =>
    have E : cCmp t k s t' k' s' = 0 := by unfold cCmp; rw [ha, Bool.false_and, if_neg (by simp)]
    have E2 : cRel 17 t k s t' k' s' = false := by unfold cRel; rw [ha, Bool.false_and, Bool.false_and]
    have hc : ∀ W, Go.Proofs.YtofinndkbjcgbaaDoor.Dec.Tables W → Calls Tryd.prog 22 #[cel t k s, cel t' k' s'] W fun e w' => e = .returned (.int .i64 0) ∧ Below W.heap.size W w' := fun W hW => by have := impl_compare t k s t' k' s' hz hz' W hW; rw [E] at this; exact this
    have HC := Lib.hid hc; clear hc
    have hv : ∀ W, Calls Tryd.prog 26 #[cel t k s] W fun e w' => e = .returned (.bool false) ∧ Below W.heap.size W w' := fun W => by have := spec_cellOk t k s hz W; rw [ha] at this; exact this
    have HV := Lib.hid hv; clear hv
    have hr : ∀ W, Go.Proofs.YtofinndkbjcgbaaDoor.Dec.Tables W → Calls Tryd.prog 24 #[.int .i64 17, cel t k s, cel t' k' s'] W fun e w' => e = .returned (.bool false) ∧ Below W.heap.size W w' := fun W hW => by have := impl_relate 17 t k s t' k' s' hz hz' W hW; rw [E2] at this; exact this
    have HR := Lib.hid hr; clear hr
    have hal : ∀ W, Go.Proofs.YtofinndkbjcgbaaDoor.Dec.Tables W → Held W → Calls Tryd.prog 27 #[] W fun e w' => e = .returned (.bool true) ∧ Below W.heap.size W w' := fun W hW hH => cells_alive W hW hH
    have HAL := Lib.hid hal; clear hal
    clear E E2 ha
    obtain ⟨q0a, q0b, q0c⟩ := HX0.out.cells
    obtain ⟨q1a, q1b, q1c⟩ := HY0.out.cells
    go_wp2_with fail
    refine (HC.out _ (HT.out.below HB0.out)).mono ?_
    rintro e w1 ⟨rfl, hB⟩
    have HX1 := Lib.hid (HX0.out.next hB)
    have HY1 := Lib.hid (HY0.out.next hB)
    have HB1 := Lib.hid (HB0.out.trans (hB.mono HB0.out.size)); clear hB
    clear q0a q0b q0c q1a q1b q1c
    obtain ⟨q0a, q0b, q0c⟩ := HX1.out.cells
    obtain ⟨q1a, q1b, q1c⟩ := HY1.out.cells
    go_wp2_with fail
    refine (HV.out _).mono ?_
    rintro e w2 ⟨rfl, hB⟩
    have HX2 := Lib.hid (HX1.out.next hB)
    have HY2 := Lib.hid (HY1.out.next hB)
    have HB2 := Lib.hid (HB1.out.trans (hB.mono HB1.out.size)); clear hB
    clear q0a q0b q0c q1a q1b q1c
    obtain ⟨q0a, q0b, q0c⟩ := HX2.out.cells
    obtain ⟨q1a, q1b, q1c⟩ := HY2.out.cells
    go_wp2_with fail
    refine (HR.out _ (HT.out.below HB2.out)).mono ?_
    rintro e w3 ⟨rfl, hB⟩
    have HX3 := Lib.hid (HX2.out.next hB)
    have HY3 := Lib.hid (HY2.out.next hB)
    have HB3 := Lib.hid (HB2.out.trans (hB.mono HB2.out.size)); clear hB
    clear q0a q0b q0c q1a q1b q1c
    obtain ⟨q0a, q0b, q0c⟩ := HX3.out.cells
    obtain ⟨q1a, q1b, q1c⟩ := HY3.out.cells
    go_wp2_with fail
    refine (HAL.out _ (HT.out.below HB3.out) (HM.out.below HB3.out)).mono ?_
    rintro e w4 ⟨rfl, hB⟩
    have HX4 := Lib.hid (HX3.out.next hB)
    have HY4 := Lib.hid (HY3.out.next hB)
    have HB4 := Lib.hid (HB3.out.trans (hB.mono HB3.out.size)); clear hB
    clear q0a q0b q0c q1a q1b q1c
    obtain ⟨q0a, q0b, q0c⟩ := HX4.out.cells
    obtain ⟨q1a, q1b, q1c⟩ := HY4.out.cells
    go_wp2_with fail
    go_ret
    exact ⟨rfl, HB4.out⟩
  | true =>
    cases hb : cOk t' k' s' with
    | false =>
      have E : cCmp t k s t' k' s' = 0 := by unfold cCmp; rw [hb, Bool.and_false, if_neg (by simp)]
      have E2 : cRel 17 t k s t' k' s' = false := by unfold cRel; rw [hb, Bool.and_false, Bool.false_and]
      have hc : ∀ W, Go.Proofs.YtofinndkbjcgbaaDoor.Dec.Tables W → Calls Tryd.prog 22 #[cel t k s, cel t' k' s'] W fun e w' => e = .returned (.int .i64 0) ∧ Below W.heap.size W w' := fun W hW => by have := impl_compare t k s t' k' s' hz hz' W hW; rw [E] at this; exact this
      have HC := Lib.hid hc; clear hc
      have hv : ∀ W, Calls Tryd.prog 26 #[cel t k s] W fun e w' => e = .returned (.bool true) ∧ Below W.heap.size W w' := fun W => by have := spec_cellOk t k s hz W; rw [ha] at this; exact this
      have HV := Lib.hid hv; clear hv
      have hv2 : ∀ W, Calls Tryd.prog 26 #[cel t' k' s'] W fun e w' => e = .returned (.bool false) ∧ Below W.heap.size W w' := fun W => by have := spec_cellOk t' k' s' hz' W; rw [hb] at this; exact this
      have HV2 := Lib.hid hv2; clear hv2
      have hr : ∀ W, Go.Proofs.YtofinndkbjcgbaaDoor.Dec.Tables W → Calls Tryd.prog 24 #[.int .i64 17, cel t k s, cel t' k' s'] W fun e w' => e = .returned (.bool false) ∧ Below W.heap.size W w' := fun W hW => by have := impl_relate 17 t k s t' k' s' hz hz' W hW; rw [E2] at this; exact this
      have HR := Lib.hid hr; clear hr
      have hal : ∀ W, Go.Proofs.YtofinndkbjcgbaaDoor.Dec.Tables W → Held W → Calls Tryd.prog 27 #[] W fun e w' => e = .returned (.bool true) ∧ Below W.heap.size W w' := fun W hW hH => cells_alive W hW hH
      have HAL := Lib.hid hal; clear hal
      clear E E2 ha hb
      obtain ⟨q0a, q0b, q0c⟩ := HX0.out.cells
      obtain ⟨q1a, q1b, q1c⟩ := HY0.out.cells
      go_wp2_with fail
      refine (HC.out _ (HT.out.below HB0.out)).mono ?_
      rintro e w1 ⟨rfl, hB⟩
      have HX1 := Lib.hid (HX0.out.next hB)
      have HY1 := Lib.hid (HY0.out.next hB)
      have HB1 := Lib.hid (HB0.out.trans (hB.mono HB0.out.size)); clear hB
      clear q0a q0b q0c q1a q1b q1c
      obtain ⟨q0a, q0b, q0c⟩ := HX1.out.cells
      obtain ⟨q1a, q1b, q1c⟩ := HY1.out.cells
      go_wp2_with fail
      refine (HV.out _).mono ?_
      rintro e w2 ⟨rfl, hB⟩
      have HX2 := Lib.hid (HX1.out.next hB)
      have HY2 := Lib.hid (HY1.out.next hB)
      have HB2 := Lib.hid (HB1.out.trans (hB.mono HB1.out.size)); clear hB
      clear q0a q0b q0c q1a q1b q1c
      obtain ⟨q0a, q0b, q0c⟩ := HX2.out.cells
      obtain ⟨q1a, q1b, q1c⟩ := HY2.out.cells
      go_wp2_with fail
      refine (HV2.out _).mono ?_
      rintro e w3 ⟨rfl, hB⟩
      have HX3 := Lib.hid (HX2.out.next hB)
      have HY3 := Lib.hid (HY2.out.next hB)
      have HB3 := Lib.hid (HB2.out.trans (hB.mono HB2.out.size)); clear hB
      clear q0a q0b q0c q1a q1b q1c
      obtain ⟨q0a, q0b, q0c⟩ := HX3.out.cells
      obtain ⟨q1a, q1b, q1c⟩ := HY3.out.cells
      go_wp2_with fail
      refine (HR.out _ (HT.out.below HB3.out)).mono ?_
      rintro e w4 ⟨rfl, hB⟩
      have HX4 := Lib.hid (HX3.out.next hB)
      have HY4 := Lib.hid (HY3.out.next hB)
      have HB4 := Lib.hid (HB3.out.trans (hB.mono HB3.out.size)); clear hB
      clear q0a q0b q0c q1a q1b q1c
      obtain ⟨q0a, q0b, q0c⟩ := HX4.out.cells
      obtain ⟨q1a, q1b, q1c⟩ := HY4.out.cells
      go_wp2_with fail
      refine (HAL.out _ (HT.out.below HB4.out) (HM.out.below HB4.out)).mono ?_
      rintro e w5 ⟨rfl, hB⟩
      have HX5 := Lib.hid (HX4.out.next hB)
      have HY5 := Lib.hid (HY4.out.next hB)
      have HB5 := Lib.hid (HB4.out.trans (hB.mono HB4.out.size)); clear hB
      clear q0a q0b q0c q1a q1b q1c
      obtain ⟨q0a, q0b, q0c⟩ := HX5.out.cells
      obtain ⟨q1a, q1b, q1c⟩ := HY5.out.cells
      go_wp2_with fail
      go_ret
      exact ⟨rfl, HB5.out⟩
    | true =>
      have hbd := cCmp_bd t k s t' k' s'
      have hfl := cCmp_flip t' k' s' t k s
      have hse := cCmp_self t k s
      have hr : ∀ q, cRel q t k s t' k' s' = (if q = 15 then decide (cCmp t k s t' k' s' < 0) else if q = 16 then decide (cCmp t k s t' k' s' ≤ 0) else if q = 17 then cCmp t k s t' k' s' == 0 else if q = 18 then !(cCmp t k s t' k' s' == 0) else false) := fun q => by unfold cRel; rw [ha, hb]; rfl
      have h3 : cCmp t k s t' k' s' = -1 ∨ cCmp t k s t' k' s' = 0 ∨ cCmp t k s t' k' s' = 1 := by omega
      rcases h3 with E | E | E
      · have hfl2 : cCmp t' k' s' t k s = 1 := by omega
        have hr15 : cRel 15 t k s t' k' s' = true := by rw [hr, E]; decide
        have hr16 : cRel 16 t k s t' k' s' = true := by rw [hr, E]; decide
        have hr17 : cRel 17 t k s t' k' s' = false := by rw [hr, E]; decide
        have hr18 : cRel 18 t k s t' k' s' = true := by rw [hr, E]; decide
        have hc : ∀ W, Go.Proofs.YtofinndkbjcgbaaDoor.Dec.Tables W → Calls Tryd.prog 22 #[cel t k s, cel t' k' s'] W fun e w' => e = .returned (.int .i64 (-1)) ∧ Below W.heap.size W w' := fun W hW => by have := impl_compare t k s t' k' s' hz hz' W hW; rw [E] at this; exact this
        have HC := Lib.hid hc; clear hc
        have hv : ∀ W, Calls Tryd.prog 26 #[cel t k s] W fun e w' => e = .returned (.bool true) ∧ Below W.heap.size W w' := fun W => by have := spec_cellOk t k s hz W; rw [ha] at this; exact this
        have HV := Lib.hid hv; clear hv
        have hv2 : ∀ W, Calls Tryd.prog 26 #[cel t' k' s'] W fun e w' => e = .returned (.bool true) ∧ Below W.heap.size W w' := fun W => by have := spec_cellOk t' k' s' hz' W; rw [hb] at this; exact this
        have HV2 := Lib.hid hv2; clear hv2
        have hd : ∀ W, Go.Proofs.YtofinndkbjcgbaaDoor.Dec.Tables W → Calls Tryd.prog 22 #[cel t' k' s', cel t k s] W fun e w' => e = .returned (.int .i64 1) ∧ Below W.heap.size W w' := fun W hW => by have := impl_compare t' k' s' t k s hz' hz W hW; rw [hfl2] at this; exact this
        have HD := Lib.hid hd; clear hd
        have he : ∀ W, Go.Proofs.YtofinndkbjcgbaaDoor.Dec.Tables W → Calls Tryd.prog 22 #[cel t k s, cel t k s] W fun e w' => e = .returned (.int .i64 0) ∧ Below W.heap.size W w' := fun W hW => by have := impl_compare t k s t k s hz hz W hW; rw [hse] at this; exact this
        have HE := Lib.hid he; clear he
        have hr15 : ∀ W, Go.Proofs.YtofinndkbjcgbaaDoor.Dec.Tables W → Calls Tryd.prog 24 #[.int .i64 15, cel t k s, cel t' k' s'] W fun e w' => e = .returned (.bool true) ∧ Below W.heap.size W w' := fun W hW => by have := impl_relate 15 t k s t' k' s' hz hz' W hW; rw [hr15] at this; exact this
        have HR15 := Lib.hid hr15; clear hr15
        have hr16 : ∀ W, Go.Proofs.YtofinndkbjcgbaaDoor.Dec.Tables W → Calls Tryd.prog 24 #[.int .i64 16, cel t k s, cel t' k' s'] W fun e w' => e = .returned (.bool true) ∧ Below W.heap.size W w' := fun W hW => by have := impl_relate 16 t k s t' k' s' hz hz' W hW; rw [hr16] at this; exact this
        have HR16 := Lib.hid hr16; clear hr16
        have hr17 : ∀ W, Go.Proofs.YtofinndkbjcgbaaDoor.Dec.Tables W → Calls Tryd.prog 24 #[.int .i64 17, cel t k s, cel t' k' s'] W fun e w' => e = .returned (.bool false) ∧ Below W.heap.size W w' := fun W hW => by have := impl_relate 17 t k s t' k' s' hz hz' W hW; rw [hr17] at this; exact this
        have HR17 := Lib.hid hr17; clear hr17
        have hr18 : ∀ W, Go.Proofs.YtofinndkbjcgbaaDoor.Dec.Tables W → Calls Tryd.prog 24 #[.int .i64 18, cel t k s, cel t' k' s'] W fun e w' => e = .returned (.bool true) ∧ Below W.heap.size W w' := fun W hW => by have := impl_relate 18 t k s t' k' s' hz hz' W hW; rw [hr18] at this; exact this
        have HR18 := Lib.hid hr18; clear hr18
        have hs : ∀ W, Calls Tryd.prog 20 #[cel t k s, cel t' k' s'] W fun e w' => e = .returned (.int .i64 (-1)) ∧ Below W.heap.size W w' := fun W => by have := spec_compare t k s t' k' s' hz hz' W; rw [E] at this; exact this
        have HS := Lib.hid hs; clear hs
        have hal : ∀ W, Go.Proofs.YtofinndkbjcgbaaDoor.Dec.Tables W → Held W → Calls Tryd.prog 27 #[] W fun e w' => e = .returned (.bool true) ∧ Below W.heap.size W w' := fun W hW hH => cells_alive W hW hH
        have HAL := Lib.hid hal; clear hal
        clear E hbd hfl hse hr hfl2 hr15 hr16 hr17 hr18 ha hb
        obtain ⟨q0a, q0b, q0c⟩ := HX0.out.cells
        obtain ⟨q1a, q1b, q1c⟩ := HY0.out.cells
        go_wp2_with fail
        refine (HC.out _ (HT.out.below HB0.out)).mono ?_
        rintro e w1 ⟨rfl, hB⟩
        have HX1 := Lib.hid (HX0.out.next hB)
        have HY1 := Lib.hid (HY0.out.next hB)
        have HB1 := Lib.hid (HB0.out.trans (hB.mono HB0.out.size)); clear hB
        clear q0a q0b q0c q1a q1b q1c
        obtain ⟨q0a, q0b, q0c⟩ := HX1.out.cells
        obtain ⟨q1a, q1b, q1c⟩ := HY1.out.cells
        go_wp2_with fail
        refine (HV.out _).mono ?_
        rintro e w2 ⟨rfl, hB⟩
        have HX2 := Lib.hid (HX1.out.next hB)
        have HY2 := Lib.hid (HY1.out.next hB)
        have HB2 := Lib.hid (HB1.out.trans (hB.mono HB1.out.size)); clear hB
        clear q0a q0b q0c q1a q1b q1c
        obtain ⟨q0a, q0b, q0c⟩ := HX2.out.cells
        obtain ⟨q1a, q1b, q1c⟩ := HY2.out.cells
        go_wp2_with fail
        refine (HV2.out _).mono ?_
        rintro e w3 ⟨rfl, hB⟩
        have HX3 := Lib.hid (HX2.out.next hB)
        have HY3 := Lib.hid (HY2.out.next hB)
        have HB3 := Lib.hid (HB2.out.trans (hB.mono HB2.out.size)); clear hB
        clear q0a q0b q0c q1a q1b q1c
        obtain ⟨q0a, q0b, q0c⟩ := HX3.out.cells
        obtain ⟨q1a, q1b, q1c⟩ := HY3.out.cells
        go_wp2_with fail
        refine (HD.out _ (HT.out.below HB3.out)).mono ?_
        rintro e w4 ⟨rfl, hB⟩
        have HX4 := Lib.hid (HX3.out.next hB)
        have HY4 := Lib.hid (HY3.out.next hB)
        have HB4 := Lib.hid (HB3.out.trans (hB.mono HB3.out.size)); clear hB
        clear q0a q0b q0c q1a q1b q1c
        obtain ⟨q0a, q0b, q0c⟩ := HX4.out.cells
        obtain ⟨q1a, q1b, q1c⟩ := HY4.out.cells
        go_wp2_with fail
        refine (HE.out _ (HT.out.below HB4.out)).mono ?_
        rintro e w5 ⟨rfl, hB⟩
        have HX5 := Lib.hid (HX4.out.next hB)
        have HY5 := Lib.hid (HY4.out.next hB)
        have HB5 := Lib.hid (HB4.out.trans (hB.mono HB4.out.size)); clear hB
        clear q0a q0b q0c q1a q1b q1c
        obtain ⟨q0a, q0b, q0c⟩ := HX5.out.cells
        obtain ⟨q1a, q1b, q1c⟩ := HY5.out.cells
        go_wp2_with fail
        refine (HR15.out _ (HT.out.below HB5.out)).mono ?_
        rintro e w6 ⟨rfl, hB⟩
        have HX6 := Lib.hid (HX5.out.next hB)
        have HY6 := Lib.hid (HY5.out.next hB)
        have HB6 := Lib.hid (HB5.out.trans (hB.mono HB5.out.size)); clear hB
        clear q0a q0b q0c q1a q1b q1c
        obtain ⟨q0a, q0b, q0c⟩ := HX6.out.cells
        obtain ⟨q1a, q1b, q1c⟩ := HY6.out.cells
        go_wp2_with fail
        refine (HR16.out _ (HT.out.below HB6.out)).mono ?_
        rintro e w7 ⟨rfl, hB⟩
        have HX7 := Lib.hid (HX6.out.next hB)
        have HY7 := Lib.hid (HY6.out.next hB)
        have HB7 := Lib.hid (HB6.out.trans (hB.mono HB6.out.size)); clear hB
        clear q0a q0b q0c q1a q1b q1c
        obtain ⟨q0a, q0b, q0c⟩ := HX7.out.cells
        obtain ⟨q1a, q1b, q1c⟩ := HY7.out.cells
        go_wp2_with fail
        refine (HR17.out _ (HT.out.below HB7.out)).mono ?_
        rintro e w8 ⟨rfl, hB⟩
        have HX8 := Lib.hid (HX7.out.next hB)
        have HY8 := Lib.hid (HY7.out.next hB)
        have HB8 := Lib.hid (HB7.out.trans (hB.mono HB7.out.size)); clear hB
        clear q0a q0b q0c q1a q1b q1c
        obtain ⟨q0a, q0b, q0c⟩ := HX8.out.cells
        obtain ⟨q1a, q1b, q1c⟩ := HY8.out.cells
        go_wp2_with fail
        refine (HR18.out _ (HT.out.below HB8.out)).mono ?_
        rintro e w9 ⟨rfl, hB⟩
        have HX9 := Lib.hid (HX8.out.next hB)
        have HY9 := Lib.hid (HY8.out.next hB)
        have HB9 := Lib.hid (HB8.out.trans (hB.mono HB8.out.size)); clear hB
        clear q0a q0b q0c q1a q1b q1c
        obtain ⟨q0a, q0b, q0c⟩ := HX9.out.cells
        obtain ⟨q1a, q1b, q1c⟩ := HY9.out.cells
        go_wp2_with fail
        refine (HS.out _).mono ?_
        rintro e w10 ⟨rfl, hB⟩
        have HX10 := Lib.hid (HX9.out.next hB)
        have HY10 := Lib.hid (HY9.out.next hB)
        have HB10 := Lib.hid (HB9.out.trans (hB.mono HB9.out.size)); clear hB
        clear q0a q0b q0c q1a q1b q1c
        obtain ⟨q0a, q0b, q0c⟩ := HX10.out.cells
        obtain ⟨q1a, q1b, q1c⟩ := HY10.out.cells
        go_wp2_with fail
        refine (HAL.out _ (HT.out.below HB10.out) (HM.out.below HB10.out)).mono ?_
        rintro e w11 ⟨rfl, hB⟩
        have HX11 := Lib.hid (HX10.out.next hB)
        have HY11 := Lib.hid (HY10.out.next hB)
        have HB11 := Lib.hid (HB10.out.trans (hB.mono HB10.out.size)); clear hB
        clear q0a q0b q0c q1a q1b q1c
        obtain ⟨q0a, q0b, q0c⟩ := HX11.out.cells
        obtain ⟨q1a, q1b, q1c⟩ := HY11.out.cells
        go_wp2_with fail
        go_ret
        exact ⟨rfl, HB11.out⟩
      · have hfl2 : cCmp t' k' s' t k s = 0 := by omega
        have hr15 : cRel 15 t k s t' k' s' = false := by rw [hr, E]; decide
        have hr16 : cRel 16 t k s t' k' s' = true := by rw [hr, E]; decide
        have hr17 : cRel 17 t k s t' k' s' = true := by rw [hr, E]; decide
        have hr18 : cRel 18 t k s t' k' s' = false := by rw [hr, E]; decide
        have hc : ∀ W, Go.Proofs.YtofinndkbjcgbaaDoor.Dec.Tables W → Calls Tryd.prog 22 #[cel t k s, cel t' k' s'] W fun e w' => e = .returned (.int .i64 0) ∧ Below W.heap.size W w' := fun W hW => by have := impl_compare t k s t' k' s' hz hz' W hW; rw [E] at this; exact this
        have HC := Lib.hid hc; clear hc
        have hv : ∀ W, Calls Tryd.prog 26 #[cel t k s] W fun e w' => e = .returned (.bool true) ∧ Below W.heap.size W w' := fun W => by have := spec_cellOk t k s hz W; rw [ha] at this; exact this
        have HV := Lib.hid hv; clear hv
        have hv2 : ∀ W, Calls Tryd.prog 26 #[cel t' k' s'] W fun e w' => e = .returned (.bool true) ∧ Below W.heap.size W w' := fun W => by have := spec_cellOk t' k' s' hz' W; rw [hb] at this; exact this
        have HV2 := Lib.hid hv2; clear hv2
        have hd : ∀ W, Go.Proofs.YtofinndkbjcgbaaDoor.Dec.Tables W → Calls Tryd.prog 22 #[cel t' k' s', cel t k s] W fun e w' => e = .returned (.int .i64 0) ∧ Below W.heap.size W w' := fun W hW => by have := impl_compare t' k' s' t k s hz' hz W hW; rw [hfl2] at this; exact this
        have HD := Lib.hid hd; clear hd
        have he : ∀ W, Go.Proofs.YtofinndkbjcgbaaDoor.Dec.Tables W → Calls Tryd.prog 22 #[cel t k s, cel t k s] W fun e w' => e = .returned (.int .i64 0) ∧ Below W.heap.size W w' := fun W hW => by have := impl_compare t k s t k s hz hz W hW; rw [hse] at this; exact this
        have HE := Lib.hid he; clear he
        have hr15 : ∀ W, Go.Proofs.YtofinndkbjcgbaaDoor.Dec.Tables W → Calls Tryd.prog 24 #[.int .i64 15, cel t k s, cel t' k' s'] W fun e w' => e = .returned (.bool false) ∧ Below W.heap.size W w' := fun W hW => by have := impl_relate 15 t k s t' k' s' hz hz' W hW; rw [hr15] at this; exact this
        have HR15 := Lib.hid hr15; clear hr15
        have hr16 : ∀ W, Go.Proofs.YtofinndkbjcgbaaDoor.Dec.Tables W → Calls Tryd.prog 24 #[.int .i64 16, cel t k s, cel t' k' s'] W fun e w' => e = .returned (.bool true) ∧ Below W.heap.size W w' := fun W hW => by have := impl_relate 16 t k s t' k' s' hz hz' W hW; rw [hr16] at this; exact this
        have HR16 := Lib.hid hr16; clear hr16
        have hr17 : ∀ W, Go.Proofs.YtofinndkbjcgbaaDoor.Dec.Tables W → Calls Tryd.prog 24 #[.int .i64 17, cel t k s, cel t' k' s'] W fun e w' => e = .returned (.bool true) ∧ Below W.heap.size W w' := fun W hW => by have := impl_relate 17 t k s t' k' s' hz hz' W hW; rw [hr17] at this; exact this
        have HR17 := Lib.hid hr17; clear hr17
        have hr18 : ∀ W, Go.Proofs.YtofinndkbjcgbaaDoor.Dec.Tables W → Calls Tryd.prog 24 #[.int .i64 18, cel t k s, cel t' k' s'] W fun e w' => e = .returned (.bool false) ∧ Below W.heap.size W w' := fun W hW => by have := impl_relate 18 t k s t' k' s' hz hz' W hW; rw [hr18] at this; exact this
        have HR18 := Lib.hid hr18; clear hr18
        have hs : ∀ W, Calls Tryd.prog 20 #[cel t k s, cel t' k' s'] W fun e w' => e = .returned (.int .i64 0) ∧ Below W.heap.size W w' := fun W => by have := spec_compare t k s t' k' s' hz hz' W; rw [E] at this; exact this
        have HS := Lib.hid hs; clear hs
        have hal : ∀ W, Go.Proofs.YtofinndkbjcgbaaDoor.Dec.Tables W → Held W → Calls Tryd.prog 27 #[] W fun e w' => e = .returned (.bool true) ∧ Below W.heap.size W w' := fun W hW hH => cells_alive W hW hH
        have HAL := Lib.hid hal; clear hal
        clear E hbd hfl hse hr hfl2 hr15 hr16 hr17 hr18 ha hb
        obtain ⟨q0a, q0b, q0c⟩ := HX0.out.cells
        obtain ⟨q1a, q1b, q1c⟩ := HY0.out.cells
        go_wp2_with fail
        refine (HC.out _ (HT.out.below HB0.out)).mono ?_
        rintro e w1 ⟨rfl, hB⟩
        have HX1 := Lib.hid (HX0.out.next hB)
        have HY1 := Lib.hid (HY0.out.next hB)
        have HB1 := Lib.hid (HB0.out.trans (hB.mono HB0.out.size)); clear hB
        clear q0a q0b q0c q1a q1b q1c
        obtain ⟨q0a, q0b, q0c⟩ := HX1.out.cells
        obtain ⟨q1a, q1b, q1c⟩ := HY1.out.cells
        go_wp2_with fail
        refine (HV.out _).mono ?_
        rintro e w2 ⟨rfl, hB⟩
        have HX2 := Lib.hid (HX1.out.next hB)
        have HY2 := Lib.hid (HY1.out.next hB)
        have HB2 := Lib.hid (HB1.out.trans (hB.mono HB1.out.size)); clear hB
        clear q0a q0b q0c q1a q1b q1c
        obtain ⟨q0a, q0b, q0c⟩ := HX2.out.cells
        obtain ⟨q1a, q1b, q1c⟩ := HY2.out.cells
        go_wp2_with fail
        refine (HV2.out _).mono ?_
        rintro e w3 ⟨rfl, hB⟩
        have HX3 := Lib.hid (HX2.out.next hB)
        have HY3 := Lib.hid (HY2.out.next hB)
        have HB3 := Lib.hid (HB2.out.trans (hB.mono HB2.out.size)); clear hB
        clear q0a q0b q0c q1a q1b q1c
        obtain ⟨q0a, q0b, q0c⟩ := HX3.out.cells
        obtain ⟨q1a, q1b, q1c⟩ := HY3.out.cells
        go_wp2_with fail
        refine (HD.out _ (HT.out.below HB3.out)).mono ?_
        rintro e w4 ⟨rfl, hB⟩
        have HX4 := Lib.hid (HX3.out.next hB)
        have HY4 := Lib.hid (HY3.out.next hB)
        have HB4 := Lib.hid (HB3.out.trans (hB.mono HB3.out.size)); clear hB
        clear q0a q0b q0c q1a q1b q1c
        obtain ⟨q0a, q0b, q0c⟩ := HX4.out.cells
        obtain ⟨q1a, q1b, q1c⟩ := HY4.out.cells
        go_wp2_with fail
        refine (HE.out _ (HT.out.below HB4.out)).mono ?_
        rintro e w5 ⟨rfl, hB⟩
        have HX5 := Lib.hid (HX4.out.next hB)
        have HY5 := Lib.hid (HY4.out.next hB)
        have HB5 := Lib.hid (HB4.out.trans (hB.mono HB4.out.size)); clear hB
        clear q0a q0b q0c q1a q1b q1c
        obtain ⟨q0a, q0b, q0c⟩ := HX5.out.cells
        obtain ⟨q1a, q1b, q1c⟩ := HY5.out.cells
        go_wp2_with fail
        refine (HR15.out _ (HT.out.below HB5.out)).mono ?_
        rintro e w6 ⟨rfl, hB⟩
        have HX6 := Lib.hid (HX5.out.next hB)
        have HY6 := Lib.hid (HY5.out.next hB)
        have HB6 := Lib.hid (HB5.out.trans (hB.mono HB5.out.size)); clear hB
        clear q0a q0b q0c q1a q1b q1c
        obtain ⟨q0a, q0b, q0c⟩ := HX6.out.cells
        obtain ⟨q1a, q1b, q1c⟩ := HY6.out.cells
        go_wp2_with fail
        refine (HR16.out _ (HT.out.below HB6.out)).mono ?_
        rintro e w7 ⟨rfl, hB⟩
        have HX7 := Lib.hid (HX6.out.next hB)
        have HY7 := Lib.hid (HY6.out.next hB)
        have HB7 := Lib.hid (HB6.out.trans (hB.mono HB6.out.size)); clear hB
        clear q0a q0b q0c q1a q1b q1c
        obtain ⟨q0a, q0b, q0c⟩ := HX7.out.cells
        obtain ⟨q1a, q1b, q1c⟩ := HY7.out.cells
        go_wp2_with fail
        refine (HR17.out _ (HT.out.below HB7.out)).mono ?_
        rintro e w8 ⟨rfl, hB⟩
        have HX8 := Lib.hid (HX7.out.next hB)
        have HY8 := Lib.hid (HY7.out.next hB)
        have HB8 := Lib.hid (HB7.out.trans (hB.mono HB7.out.size)); clear hB
        clear q0a q0b q0c q1a q1b q1c
        obtain ⟨q0a, q0b, q0c⟩ := HX8.out.cells
        obtain ⟨q1a, q1b, q1c⟩ := HY8.out.cells
        go_wp2_with fail
        refine (HR18.out _ (HT.out.below HB8.out)).mono ?_
        rintro e w9 ⟨rfl, hB⟩
        have HX9 := Lib.hid (HX8.out.next hB)
        have HY9 := Lib.hid (HY8.out.next hB)
        have HB9 := Lib.hid (HB8.out.trans (hB.mono HB8.out.size)); clear hB
        clear q0a q0b q0c q1a q1b q1c
        obtain ⟨q0a, q0b, q0c⟩ := HX9.out.cells
        obtain ⟨q1a, q1b, q1c⟩ := HY9.out.cells
        go_wp2_with fail
        refine (HS.out _).mono ?_
        rintro e w10 ⟨rfl, hB⟩
        have HX10 := Lib.hid (HX9.out.next hB)
        have HY10 := Lib.hid (HY9.out.next hB)
        have HB10 := Lib.hid (HB9.out.trans (hB.mono HB9.out.size)); clear hB
        clear q0a q0b q0c q1a q1b q1c
        obtain ⟨q0a, q0b, q0c⟩ := HX10.out.cells
        obtain ⟨q1a, q1b, q1c⟩ := HY10.out.cells
        go_wp2_with fail
        refine (HAL.out _ (HT.out.below HB10.out) (HM.out.below HB10.out)).mono ?_
        rintro e w11 ⟨rfl, hB⟩
        have HX11 := Lib.hid (HX10.out.next hB)
        have HY11 := Lib.hid (HY10.out.next hB)
        have HB11 := Lib.hid (HB10.out.trans (hB.mono HB10.out.size)); clear hB
        clear q0a q0b q0c q1a q1b q1c
        obtain ⟨q0a, q0b, q0c⟩ := HX11.out.cells
        obtain ⟨q1a, q1b, q1c⟩ := HY11.out.cells
        go_wp2_with fail
        go_ret
        exact ⟨rfl, HB11.out⟩
      · have hfl2 : cCmp t' k' s' t k s = (-1) := by omega
        have hr15 : cRel 15 t k s t' k' s' = false := by rw [hr, E]; decide
        have hr16 : cRel 16 t k s t' k' s' = false := by rw [hr, E]; decide
        have hr17 : cRel 17 t k s t' k' s' = false := by rw [hr, E]; decide
        have hr18 : cRel 18 t k s t' k' s' = true := by rw [hr, E]; decide
        have hc : ∀ W, Go.Proofs.YtofinndkbjcgbaaDoor.Dec.Tables W → Calls Tryd.prog 22 #[cel t k s, cel t' k' s'] W fun e w' => e = .returned (.int .i64 1) ∧ Below W.heap.size W w' := fun W hW => by have := impl_compare t k s t' k' s' hz hz' W hW; rw [E] at this; exact this
        have HC := Lib.hid hc; clear hc
        have hv : ∀ W, Calls Tryd.prog 26 #[cel t k s] W fun e w' => e = .returned (.bool true) ∧ Below W.heap.size W w' := fun W => by have := spec_cellOk t k s hz W; rw [ha] at this; exact this
        have HV := Lib.hid hv; clear hv
        have hv2 : ∀ W, Calls Tryd.prog 26 #[cel t' k' s'] W fun e w' => e = .returned (.bool true) ∧ Below W.heap.size W w' := fun W => by have := spec_cellOk t' k' s' hz' W; rw [hb] at this; exact this
        have HV2 := Lib.hid hv2; clear hv2
        have hd : ∀ W, Go.Proofs.YtofinndkbjcgbaaDoor.Dec.Tables W → Calls Tryd.prog 22 #[cel t' k' s', cel t k s] W fun e w' => e = .returned (.int .i64 (-1)) ∧ Below W.heap.size W w' := fun W hW => by have := impl_compare t' k' s' t k s hz' hz W hW; rw [hfl2] at this; exact this
        have HD := Lib.hid hd; clear hd
        have he : ∀ W, Go.Proofs.YtofinndkbjcgbaaDoor.Dec.Tables W → Calls Tryd.prog 22 #[cel t k s, cel t k s] W fun e w' => e = .returned (.int .i64 0) ∧ Below W.heap.size W w' := fun W hW => by have := impl_compare t k s t k s hz hz W hW; rw [hse] at this; exact this
        have HE := Lib.hid he; clear he
        have hr15 : ∀ W, Go.Proofs.YtofinndkbjcgbaaDoor.Dec.Tables W → Calls Tryd.prog 24 #[.int .i64 15, cel t k s, cel t' k' s'] W fun e w' => e = .returned (.bool false) ∧ Below W.heap.size W w' := fun W hW => by have := impl_relate 15 t k s t' k' s' hz hz' W hW; rw [hr15] at this; exact this
        have HR15 := Lib.hid hr15; clear hr15
        have hr16 : ∀ W, Go.Proofs.YtofinndkbjcgbaaDoor.Dec.Tables W → Calls Tryd.prog 24 #[.int .i64 16, cel t k s, cel t' k' s'] W fun e w' => e = .returned (.bool false) ∧ Below W.heap.size W w' := fun W hW => by have := impl_relate 16 t k s t' k' s' hz hz' W hW; rw [hr16] at this; exact this
        have HR16 := Lib.hid hr16; clear hr16
        have hr17 : ∀ W, Go.Proofs.YtofinndkbjcgbaaDoor.Dec.Tables W → Calls Tryd.prog 24 #[.int .i64 17, cel t k s, cel t' k' s'] W fun e w' => e = .returned (.bool false) ∧ Below W.heap.size W w' := fun W hW => by have := impl_relate 17 t k s t' k' s' hz hz' W hW; rw [hr17] at this; exact this
        have HR17 := Lib.hid hr17; clear hr17
        have hr18 : ∀ W, Go.Proofs.YtofinndkbjcgbaaDoor.Dec.Tables W → Calls Tryd.prog 24 #[.int .i64 18, cel t k s, cel t' k' s'] W fun e w' => e = .returned (.bool true) ∧ Below W.heap.size W w' := fun W hW => by have := impl_relate 18 t k s t' k' s' hz hz' W hW; rw [hr18] at this; exact this
        have HR18 := Lib.hid hr18; clear hr18
        have hs : ∀ W, Calls Tryd.prog 20 #[cel t k s, cel t' k' s'] W fun e w' => e = .returned (.int .i64 1) ∧ Below W.heap.size W w' := fun W => by have := spec_compare t k s t' k' s' hz hz' W; rw [E] at this; exact this
        have HS := Lib.hid hs; clear hs
        have hal : ∀ W, Go.Proofs.YtofinndkbjcgbaaDoor.Dec.Tables W → Held W → Calls Tryd.prog 27 #[] W fun e w' => e = .returned (.bool true) ∧ Below W.heap.size W w' := fun W hW hH => cells_alive W hW hH
        have HAL := Lib.hid hal; clear hal
        clear E hbd hfl hse hr hfl2 hr15 hr16 hr17 hr18 ha hb
        obtain ⟨q0a, q0b, q0c⟩ := HX0.out.cells
        obtain ⟨q1a, q1b, q1c⟩ := HY0.out.cells
        go_wp2_with fail
        refine (HC.out _ (HT.out.below HB0.out)).mono ?_
        rintro e w1 ⟨rfl, hB⟩
        have HX1 := Lib.hid (HX0.out.next hB)
        have HY1 := Lib.hid (HY0.out.next hB)
        have HB1 := Lib.hid (HB0.out.trans (hB.mono HB0.out.size)); clear hB
        clear q0a q0b q0c q1a q1b q1c
        obtain ⟨q0a, q0b, q0c⟩ := HX1.out.cells
        obtain ⟨q1a, q1b, q1c⟩ := HY1.out.cells
        go_wp2_with fail
        refine (HV.out _).mono ?_
        rintro e w2 ⟨rfl, hB⟩
        have HX2 := Lib.hid (HX1.out.next hB)
        have HY2 := Lib.hid (HY1.out.next hB)
        have HB2 := Lib.hid (HB1.out.trans (hB.mono HB1.out.size)); clear hB
        clear q0a q0b q0c q1a q1b q1c
        obtain ⟨q0a, q0b, q0c⟩ := HX2.out.cells
        obtain ⟨q1a, q1b, q1c⟩ := HY2.out.cells
        go_wp2_with fail
        refine (HV2.out _).mono ?_
        rintro e w3 ⟨rfl, hB⟩
        have HX3 := Lib.hid (HX2.out.next hB)
        have HY3 := Lib.hid (HY2.out.next hB)
        have HB3 := Lib.hid (HB2.out.trans (hB.mono HB2.out.size)); clear hB
        clear q0a q0b q0c q1a q1b q1c
        obtain ⟨q0a, q0b, q0c⟩ := HX3.out.cells
        obtain ⟨q1a, q1b, q1c⟩ := HY3.out.cells
        go_wp2_with fail
        refine (HD.out _ (HT.out.below HB3.out)).mono ?_
        rintro e w4 ⟨rfl, hB⟩
        have HX4 := Lib.hid (HX3.out.next hB)
        have HY4 := Lib.hid (HY3.out.next hB)
        have HB4 := Lib.hid (HB3.out.trans (hB.mono HB3.out.size)); clear hB
        clear q0a q0b q0c q1a q1b q1c
        obtain ⟨q0a, q0b, q0c⟩ := HX4.out.cells
        obtain ⟨q1a, q1b, q1c⟩ := HY4.out.cells
        go_wp2_with fail
        refine (HE.out _ (HT.out.below HB4.out)).mono ?_
        rintro e w5 ⟨rfl, hB⟩
        have HX5 := Lib.hid (HX4.out.next hB)
        have HY5 := Lib.hid (HY4.out.next hB)
        have HB5 := Lib.hid (HB4.out.trans (hB.mono HB4.out.size)); clear hB
        clear q0a q0b q0c q1a q1b q1c
        obtain ⟨q0a, q0b, q0c⟩ := HX5.out.cells
        obtain ⟨q1a, q1b, q1c⟩ := HY5.out.cells
        go_wp2_with fail
        refine (HR15.out _ (HT.out.below HB5.out)).mono ?_
        rintro e w6 ⟨rfl, hB⟩
        have HX6 := Lib.hid (HX5.out.next hB)
        have HY6 := Lib.hid (HY5.out.next hB)
        have HB6 := Lib.hid (HB5.out.trans (hB.mono HB5.out.size)); clear hB
        clear q0a q0b q0c q1a q1b q1c
        obtain ⟨q0a, q0b, q0c⟩ := HX6.out.cells
        obtain ⟨q1a, q1b, q1c⟩ := HY6.out.cells
        go_wp2_with fail
        refine (HR16.out _ (HT.out.below HB6.out)).mono ?_
        rintro e w7 ⟨rfl, hB⟩
        have HX7 := Lib.hid (HX6.out.next hB)
        have HY7 := Lib.hid (HY6.out.next hB)
        have HB7 := Lib.hid (HB6.out.trans (hB.mono HB6.out.size)); clear hB
        clear q0a q0b q0c q1a q1b q1c
        obtain ⟨q0a, q0b, q0c⟩ := HX7.out.cells
        obtain ⟨q1a, q1b, q1c⟩ := HY7.out.cells
        go_wp2_with fail
        refine (HR17.out _ (HT.out.below HB7.out)).mono ?_
        rintro e w8 ⟨rfl, hB⟩
        have HX8 := Lib.hid (HX7.out.next hB)
        have HY8 := Lib.hid (HY7.out.next hB)
        have HB8 := Lib.hid (HB7.out.trans (hB.mono HB7.out.size)); clear hB
        clear q0a q0b q0c q1a q1b q1c
        obtain ⟨q0a, q0b, q0c⟩ := HX8.out.cells
        obtain ⟨q1a, q1b, q1c⟩ := HY8.out.cells
        go_wp2_with fail
        refine (HR18.out _ (HT.out.below HB8.out)).mono ?_
        rintro e w9 ⟨rfl, hB⟩
        have HX9 := Lib.hid (HX8.out.next hB)
        have HY9 := Lib.hid (HY8.out.next hB)
        have HB9 := Lib.hid (HB8.out.trans (hB.mono HB8.out.size)); clear hB
        clear q0a q0b q0c q1a q1b q1c
        obtain ⟨q0a, q0b, q0c⟩ := HX9.out.cells
        obtain ⟨q1a, q1b, q1c⟩ := HY9.out.cells
        go_wp2_with fail
        refine (HS.out _).mono ?_
        rintro e w10 ⟨rfl, hB⟩
        have HX10 := Lib.hid (HX9.out.next hB)
        have HY10 := Lib.hid (HY9.out.next hB)
        have HB10 := Lib.hid (HB9.out.trans (hB.mono HB9.out.size)); clear hB
        clear q0a q0b q0c q1a q1b q1c
        obtain ⟨q0a, q0b, q0c⟩ := HX10.out.cells
        obtain ⟨q1a, q1b, q1c⟩ := HY10.out.cells
        go_wp2_with fail
        refine (HAL.out _ (HT.out.below HB10.out) (HM.out.below HB10.out)).mono ?_
        rintro e w11 ⟨rfl, hB⟩
        have HX11 := Lib.hid (HX10.out.next hB)
        have HY11 := Lib.hid (HY10.out.next hB)
        have HB11 := Lib.hid (HB10.out.trans (hB.mono HB10.out.size)); clear hB
        clear q0a q0b q0c q1a q1b q1c
        obtain ⟨q0a, q0b, q0c⟩ := HX11.out.cells
        obtain ⟨q1a, q1b, q1c⟩ := HY11.out.cells
        go_wp2_with fail
        go_ret
        exact ⟨rfl, HB11.out⟩


set_option maxRecDepth 100000 in
theorem contract (H : Type) (enc : TypeId × Value → H) (W : World) (base : Nat) (args : Array Value) (ds gs : List (DataW H)) (before : List MemPlace)
    (hval : ∀ (j : Nat) t v, Tryd.f8.params[j]? = some t → args[j]? = some v → Value.okWide Tryd.prog W .any base t v)
    (hW : DataW.Whole enc Tryd.prog Tryd.f8.params.toList Rows.fnComparesSpec.vars false W args.toList ds gs before) (hL : laidMetH Tryd.prog Rows.fnComparesRow.laid W) (hsh : W.ShapedOpen Tryd.prog) :
    Calls Tryd.prog 8 args W fun e W' => ∃ v, e = .returned v ∧ Rows.fnComparesSpec.post enc Tryd.prog Tryd.f8 false true false false W args v W' := by
  have hHeld : Held W := cell_of_shapedOpen_int (P := Tryd.prog) (g := 0) (t := 3) (zero := #[.int .i64 0]) (k := .i64) hsh (of_decide_eq_true (by kernel_rfl)) (by kernel_rfl) rfl (by kernel_rfl) (by kernel_rfl) Tryd.underlying3
  have hW' := hW
  obtain ⟨p, q, hA0, hV, rfl, hfz, hnd⟩ := hW
  have hA : DataW.TrodAll enc Tryd.prog W 0 (fun _ => true) true Tryd.f8.params.toList args.toList ds p := hA0
  rw [Tryd.params8] at hA hval
  obtain ⟨v0, vs0, d0, ds0, p0, q0, hargs, rfl, rfl, h0, r0⟩ := trodAll_cons hA
  obtain ⟨rfl, rfl, rfl⟩ := trodAll_nil r0
  obtain rfl : args = #[v0] := by cases args; simp_all
  obtain ⟨rfl, rfl⟩ := trodVars_none hV
  have h0k := h0
  have hlt : ∀ x ∈ p0 ++ [], x.block < W.heap.size := fun x hx => by simpa using hW'.lt x (by simpa using hx)
  obtain ⟨a0, len, cap, rfl⟩ := okWide_slice Tryd.underlying43 (hval 0 43 v0 rfl rfl)
  obtain ⟨fuel, hf⟩ := h0
  have hby : ∃ Z : Nat → Int, len ≤ 9223372036854775807 ∧ Bytes W W.heap.size a0 len Z := by
    rcases open_ints Tryd.underlying43 Tryd.underlying5 (by kernel_rfl : Tryd.prog.cellsOf 5 = 1) hf with ⟨hcs, hx⟩ | ⟨a, len', cap', zs, hcs, _, hl, hm, hz, hx, hcell, hwz⟩
    · simp [Value.cells] at hcs
      obtain ⟨rfl, rfl, rfl⟩ := hcs
      exact ⟨fun _ => 0, by omega, fun j hj => by omega⟩
    · simp [Value.cells] at hcs
      obtain ⟨rfl, rfl, rfl⟩ := hcs
      simp only [if_true] at hz
      unfold maxLen at hm
      refine ⟨fun j => zs.getD j 0, by omega, fun j hj => ?_⟩
      obtain ⟨b, off, rfl, hc⟩ := ints_at hcell (by omega)
      have h1 := hc j (by omega)
      have h2 := bounds_u8 (hwz (zs.getD j 0) (by simp [List.getD, List.getElem?_eq_getElem (show j < zs.length by omega)]))
      exact ⟨b, off, rfl, World.block_lt_of_cell? W ⟨b, off + j, none⟩ h1, h1, h2.1, h2.2⟩
  obtain ⟨Z, hn, hZ⟩ := hby
  clear hA0
  simp only [List.append_nil] at hW' hlt
  refine (walk a0 len cap Z hn W hZ (tabs hL) hHeld).mono fun e W' ⟨he, hb⟩ => ?_
  subst he
  exact ⟨_, rfl, _, _, _, [], _, [], hW', trodAll_cons_mk (shut_bool Tryd.underlying4 _) trodAll_mk0, trodAll_mk1 (Below.trod laidOut (by kernel_rfl) (of_decide_eq_true (by kernel_rfl)) h0k hb hlt), rfl, hb.frame _, fun h => by cases h⟩

theorem laid_met (os : Os) : laidMet Tryd.prog Rows.fnComparesRow.laid ((laidWorld os).forCall (fun _ _ => 0) ⟨#[], #[.slice none 0 0], []⟩).memory :=
  laidMet_of_run' 80 (by kernel_rfl) (by kernel_rfl)
theorem reads (os : Os) {H : Type} (enc : TypeId × Value → H) : ∃ places, DataW.whole enc Tryd.prog ((laidWorld os).forCall (fun _ _ => 0) ⟨#[], #[.slice none 0 0], []⟩).memory Tryd.f8.params.toList Rows.fnComparesSpec.vars false #[Value.slice none 0 0].toList 8 = some ([.nil], [], places) :=
  ⟨[], by kernel_rfl⟩

set_option maxRecDepth 100000 in
theorem lifted (os : Os) (started : os.Started) (H : Type) (enc : TypeId × Value → H) (F : Stop.Interp) :
    ReturnsInHanded {} Tryd.checked os 8 .any ((OpenSpec.ofChange Rows.fnComparesSpec).preRow enc Tryd.prog Tryd.f8 Rows.fnComparesRow.domain false Rows.fnComparesRow.laid) (((OpenSpec.ofChange Rows.fnComparesSpec).at F).post enc Tryd.prog Tryd.f8 false true false false) := by
  obtain ⟨places, hx⟩ := reads os enc
  refine returnsInHanded_of_row (C := Tryd.checked) (s := OpenSpec.ofChange Rows.fnComparesSpec) own started (by kernel_rfl) Tryd.func8
    (witness_row_at (enc := enc) (C := Tryd.checked) false (laidWorld os) #[.slice none 0 0] rfl (by kernel_rfl) (by kernel_rfl) (by kernel_rfl)
      (OpenSpec.preRow_of_cond 8 hx (by kernel_rfl) (fun k hk => by cases hk) (by kernel_rfl) (laid_met os))) ?_
  intro W base args ds gs before hval hW _ _ _ hL hsh _
  exact contract H enc W base args ds gs before hval hW hL hsh

theorem said : Rows.FnComparesSaid :=
  OpenClaim.holds_of_cond 8 Tryd.f8 rfl rfl rfl rfl rfl rfl rfl ⟨rfl, rfl, rfl, rfl, rfl⟩ rfl rfl rfl rfl rfl (by kernel_rfl) Tryd.func8 (by kernel_rfl)
    (of_decide_eq_true (by kernel_rfl)) (by unfold Func.isWrapper; first | (rw [if_pos (by decide +kernel)]; kernel_rfl) | (rw [if_neg (by decide +kernel)]; exact ⟨rfl, rfl⟩))
    (fun os started H enc _ F => by rw [OpenClaim.pre_eq_preRow]; exact lifted os started H enc F)

theorem plain (f : FuncId) (fn : Func) (hf : Tryd.pinned.checked.prog.funcNamed "loop.example/g00700/laws.FnCompares" = some f) (hfn : Tryd.pinned.checked.prog.funcs[f]? = some fn) :
    false = Tryd.pinned.checked.prog.looks [] ∧ ∀ (j : Nat) t, fn.params[j]? = some t → Tryd.pinned.checked.prog.wantsStandIn t = false := by
  obtain rfl : f = 8 := Option.some.inj ((show Tryd.prog.funcNamed "loop.example/g00700/laws.FnCompares" = some 8 by kernel_rfl).symm.trans hf) |>.symm
  obtain rfl : fn = Tryd.f8 := (Option.some.inj (Tryd.func8.symm.trans hfn)).symm
  refine ⟨by kernel_rfl, fun j t ht => ?_⟩
  rw [Tryd.params8] at ht
  obtain rfl : t = 43 := by simpa using Array.mem_of_getElem? ht
  exact (show Tryd.prog.wantsStandIn 43 = false by kernel_rfl)

theorem card : Rows.FnComparesCardSaid :=
  Claim7.holds_tied_plain_at .later [] _ _ _ _ said (fun _ h => by cases h) (by kernel_rfl) (fun _ h => by cases h) fnCompares_row_tie rfl ⟨rfl, rfl⟩ (by kernel_rfl) rfl plain (by kernel_rfl)
end Go.Proofs.YtofinndkbjcgbaaDoor.fnCompares
