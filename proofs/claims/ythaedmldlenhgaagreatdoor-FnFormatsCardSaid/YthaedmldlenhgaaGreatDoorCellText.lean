/-
  Values as texts, and how they are compared: what the program and its model return.
-/
import Derived.Test.YthaedmldlenhgaaGreatDoorCellArith
import Derived.Test.YthaedmldlenhgaaGreatDoorDecText
import Derived.Test.YthaedmldlenhgaaGreatDoorTables
import Derived.Laws.Cover1
namespace Go.Proofs.YthaedmldlenhgaaGreatDoor.Cell
open Go.ChangeShapes Go.WideShapes Go.ChangeAt Go.RowKit Go.PlainAid
open Go.Proofs.YthaedmldlenhgaaGreatDoor.Dec
open Go.Proofs.YthaedmldlenhgaaGreatDoor.DecPure Go.Proofs.YthaedmldlenhgaaGreatDoor.TextPure Go.Proofs.YthaedmldlenhgaaGreatDoor.ReadPure Go.Proofs.YthaedmldlenhgaaGreatDoor.CellPure
set_option linter.unusedVariables false

theorem cTxt_1 {n : Int} {s : ByteArray} : cTxt 1 n s = dtB n := if_pos rfl
theorem cTxt_n {t n : Int} {s : ByteArray} (h : t ≠ 1) : cTxt t n s = s := if_neg h
theorem cStr_yes {t n : Int} {s : ByteArray} (h : cOk t n s = true) : cStr t n s = cTxt t n s := if_pos h
theorem cStr_no {t n : Int} {s : ByteArray} (h : cOk t n s = false) : cStr t n s = ⟨#[]⟩ := by unfold cStr; rw [h, if_neg (by simp)]

set_option maxRecDepth 100000 in
theorem the_text (t n : Int) (s : ByteArray) (w : World) (htab : Go.Proofs.YthaedmldlenhgaaGreatDoor.Dec.Tables w) : Calls Tryz.prog 98 #[cel t n s] w fun e w' => e = .returned (.string (cTxt t n s)) ∧ Below w.heap.size w w' := by
  have HC := Lib.hid (CB.new w (.int .i64 t) (.int .i64 n) (.string s))
  have hB0 := (Below.refl w.heap.size w).alloc (Nat.le_refl _) (.cells #[.int .i64 t, .int .i64 n, .string s] 33)
  have HT := Lib.hid (htab.below hB0); clear htab
  have HB0 := Lib.hid hB0; clear hB0
  by_cases h : t = 1
  · subst h
    rw [cTxt_1]
    obtain ⟨d, hd⟩ : ∃ d, d = dtB n := ⟨_, rfl⟩
    have hcd : ∀ W, Go.Proofs.YthaedmldlenhgaaGreatDoor.Dec.Tables W → Calls Tryz.prog 94 #[.int .i64 n] W fun e w' => e = .returned (.string d) ∧ Below W.heap.size W w' := fun W hW => by rw [hd]; exact impl_text n W hW
    rw [← hd]; clear hd
    have HCD := Lib.hid hcd; clear hcd
    go_enter Tryz.func98, Tryz.ntmps98
    go_wp2_with fail
    refine (HCD.out _ HT.out).mono ?_
    rintro e w1 ⟨rfl, hB⟩
    have HB := Lib.hid (HB0.out.trans (hB.mono (by simp))); clear hB
    go_wp2_with fail
    go_ret
    exact ⟨rfl, HB.out⟩
  · rw [cTxt_n h]
    have hb : (t == 1) = false := by simpa using h
    go_enter Tryz.func98, Tryz.ntmps98
    go_wp2_with fail
    go_ret
    exact ⟨rfl, HB0.out⟩

set_option maxRecDepth 100000 in
theorem impl_toStr (t n : Int) (s : ByteArray) (hs : s.size ≤ 1048576) (w : World) (htab : Go.Proofs.YthaedmldlenhgaaGreatDoor.Dec.Tables w) : Calls Tryz.prog 61 #[cel t n s] w fun e w' => e = .returned (.string (cStr t n s)) ∧ Below w.heap.size w w' := by
  have HC := Lib.hid (CB.new w (.int .i64 t) (.int .i64 n) (.string s))
  have hB0 := (Below.refl w.heap.size w).alloc (Nat.le_refl _) (.cells #[.int .i64 t, .int .i64 n, .string s] 33)
  have HT := Lib.hid htab; clear htab
  have HB0 := Lib.hid hB0; clear hB0
  cases hk : cOk t n s with
  | true =>
    have E := Lib.hid (cStr_yes hk)
    have hz := cTxt_size hk
    have HK := Lib.hid hk; clear hk
    have htx := fun W hW => the_text t n s W hW
    generalize cTxt t n s = d at *
    have HTX := Lib.hid htx; clear htx
    go_enter Tryz.func61, Tryz.ntmps61
    go_wp2_with fail
    refine (impl_cellOk t n s hs _).mono ?_
    rw [HK.out]
    rintro e w1 ⟨rfl, hB⟩
    have hn := HC.out.next hB
    obtain ⟨c0, c1, c2⟩ := hn.cells
    have HN := Lib.hid hn; clear hn
    have HB := Lib.hid (HB0.out.trans (hB.mono (by simp))); clear hB
    have HT1 := Lib.hid (HT.out.below HB.out)
    go_wp2_with fail
    refine (HTX.out _ HT1.out).mono ?_
    rintro e w2 ⟨rfl, hB⟩
    have HB2 := Lib.hid (HB.out.trans (hB.mono HB.out.size)); clear hB
    go_wp2_with fail
    refine (clone_cell d _ (by omega)).mono ?_
    rintro e w3 ⟨rfl, hB⟩
    have HB3 := Lib.hid (HB2.out.trans (hB.mono HB2.out.size)); clear hB
    go_wp2_with fail
    go_ret
    exact ⟨strs E.out.symm, HB3.out⟩
  | false =>
    have E := Lib.hid (cStr_no hk)
    have HK := Lib.hid hk; clear hk
    go_enter Tryz.func61, Tryz.ntmps61
    go_wp2_with fail
    refine (impl_cellOk t n s hs _).mono ?_
    rw [HK.out]
    rintro e w1 ⟨rfl, hB⟩
    have HB := Lib.hid (HB0.out.trans (hB.mono (by simp))); clear hB
    go_wp2_with fail
    go_ret
    exact ⟨strs E.out.symm, HB.out⟩

set_option maxRecDepth 100000 in
theorem spec_toStr (t n : Int) (s : ByteArray) (hs : s.size ≤ 1048576) (w : World) : Calls Tryz.prog 34 #[cel t n s] w fun e w' => e = .returned (.string (cStr t n s)) ∧ Below w.heap.size w w' := by
  have HC := Lib.hid (CB.new w (.int .i64 t) (.int .i64 n) (.string s))
  have HB0 := Lib.hid ((Below.refl w.heap.size w).alloc (Nat.le_refl _) (.cells #[.int .i64 t, .int .i64 n, .string s] 33))
  cases hk : cOk t n s with
  | true =>
    by_cases h : t = 1
    · subst h
      have E : Hid (cStr 1 n s = dtB n) := Lib.hid ((cStr_yes hk).trans cTxt_1)
      have HK := Lib.hid hk; clear hk
      have hcd := fun W => spec_text n W
      generalize dtB n = d at *
      have HCD := Lib.hid hcd; clear hcd
      go_enter Tryz.func34, Tryz.ntmps34
      go_wp2_with fail
      refine (spec_cellOk 1 n s hs _).mono ?_
      rw [HK.out]
      rintro e w1 ⟨rfl, hB⟩
      obtain ⟨c0, c1, c2⟩ := (HC.out.next hB).cells
      have HB := Lib.hid (HB0.out.trans (hB.mono (by simp))); clear hB
      go_wp2_with fail
      refine (HCD.out _).mono ?_
      rintro e w2 ⟨rfl, hB⟩
      have HB2 := Lib.hid (HB.out.trans (hB.mono HB.out.size)); clear hB
      go_wp2_with fail
      go_ret
      exact ⟨strs E.out.symm, HB2.out⟩
    · have E : Hid (cStr t n s = s) := Lib.hid ((cStr_yes hk).trans (cTxt_n h))
      have HK := Lib.hid hk; clear hk
      have hb : (t == 1) = false := by simpa using h
      go_enter Tryz.func34, Tryz.ntmps34
      go_wp2_with fail
      refine (spec_cellOk t n s hs _).mono ?_
      rw [HK.out]
      rintro e w1 ⟨rfl, hB⟩
      obtain ⟨c0, c1, c2⟩ := (HC.out.next hB).cells
      have HB := Lib.hid (HB0.out.trans (hB.mono (by simp))); clear hB
      go_wp2_with fail
      go_ret
      exact ⟨strs E.out.symm, HB.out⟩
  | false =>
    have E := Lib.hid (cStr_no hk)
    have HK := Lib.hid hk; clear hk
    go_enter Tryz.func34, Tryz.ntmps34
    go_wp2_with fail
    refine (spec_cellOk t n s hs _).mono ?_
    rw [HK.out]
    rintro e w1 ⟨rfl, hB⟩
    have HB := Lib.hid (HB0.out.trans (hB.mono (by simp))); clear hB
    go_wp2_with fail
    go_ret
    exact ⟨strs E.out.symm, HB.out⟩





end Go.Proofs.YthaedmldlenhgaaGreatDoor.Cell
