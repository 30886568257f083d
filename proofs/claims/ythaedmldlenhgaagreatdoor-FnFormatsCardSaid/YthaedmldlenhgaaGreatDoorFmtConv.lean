/-
  The program's formats: how a conversion is printed and padded.
-/
import Derived.Test.YthaedmldlenhgaaGreatDoorFmtLib
import Derived.Test.YthaedmldlenhgaaGreatDoorCellText
import Derived.Laws.Concat
namespace Go.Proofs.YthaedmldlenhgaaGreatDoor.Cell
open Go.ChangeShapes Go.WideShapes Go.ChangeAt Go.RowKit Go.PlainAid Go.Shelf
open Go.Proofs.YthaedmldlenhgaaGreatDoor.Dec
open Go.Proofs.YthaedmldlenhgaaGreatDoor.DecPure Go.Proofs.YthaedmldlenhgaaGreatDoor.ReadPure Go.Proofs.YthaedmldlenhgaaGreatDoor.TextPure Go.Proofs.YthaedmldlenhgaaGreatDoor.CellPure Go.Proofs.YthaedmldlenhgaaGreatDoor.Strs
set_option linter.unusedVariables false

def wholeV : Value := .func (.func 60) #[] #[]
def toStrV : Value := .func (.func 61) #[] #[]
theorem conv_d (w : World) : Calls Tryz.prog 26 #[.int .u8 100] w fun e w' => e = .returned (.func (.func 60) #[] #[]) ∧ w = w' := by
  go_enter Tryz.func26, Tryz.ntmps26
  go_wp2_with fail
  go_ret
  exact ⟨rfl, rfl⟩

theorem conv_s (w : World) : Calls Tryz.prog 26 #[.int .u8 115] w fun e w' => e = .returned (.func (.func 61) #[] #[]) ∧ w = w' := by
  go_enter Tryz.func26, Tryz.ntmps26
  go_wp2_with fail
  go_ret
  exact ⟨rfl, rfl⟩

theorem conv_no (k : Int) (h1 : k ≠ 100) (h2 : k ≠ 115) (w : World) : Calls Tryz.prog 26 #[.int .u8 k] w fun e w' => e = .returned .nilFunc ∧ w = w' := by
  have b1 : (k == 100) = false := by simpa using h1
  have b2 : (k == 115) = false := by simpa using h2
  go_enter Tryz.func26, Tryz.ntmps26
  go_wp2_with fail
  go_ret
  exact ⟨rfl, rfl⟩

set_option maxRecDepth 100000 in
theorem impl_whole_text (t n : Int) (s : ByteArray) (hs : s.size ≤ 1048576) (w : World) (htab : Go.Proofs.YthaedmldlenhgaaGreatDoor.Dec.Tables w) : Calls Tryz.prog 60 #[cel t n s] w fun e w' => e = .returned (.string (dtB (intV (cNum t n s)))) ∧ Below w.heap.size w w' := by
  have hB0 := (Below.refl w.heap.size w).alloc (Nat.le_refl _) (.cells #[.int .i64 t, .int .i64 n, .string s] 33)
  have HT := Lib.hid htab; clear htab
  have HB0 := Lib.hid hB0; clear hB0
  have h1 := fun W => impl_toNum t n s hs W
  generalize cNum t n s = x at *
  have h2 := fun W => impl_int x W
  generalize intV x = y at *
  have h3 := fun W hW => impl_text y W hW
  generalize dtB y = z at *
  have H1 := Lib.hid h1; clear h1
  have H2 := Lib.hid h2; clear h2
  have H3 := Lib.hid h3; clear h3
  go_enter Tryz.func60, Tryz.ntmps60
  go_wp2_with fail
  refine (H1.out _).mono ?_
  rintro e w1 ⟨rfl, hB⟩
  have HB1 := Lib.hid (HB0.out.trans (hB.mono HB0.out.size)); clear hB
  go_wp2_with fail
  refine (H2.out _).mono ?_
  rintro e w2 ⟨rfl, rfl⟩
  go_wp2_with fail
  refine (H3.out _ (HT.out.below HB1.out)).mono ?_
  rintro e w2 ⟨rfl, hB⟩
  have HB2 := Lib.hid (HB1.out.trans (hB.mono HB1.out.size)); clear hB
  go_wp2_with fail
  go_ret
  exact ⟨rfl, HB2.out⟩

set_option maxRecDepth 100000 in
theorem impl_padded (x : It) (s : ByteArray) (h0 : 0 ≤ x.wide) (h1 : x.wide ≤ 99) (hs : s.size ≤ 1048576) (w : World) : Calls Tryz.prog 27 #[.agg #[.string x.txt, .int .u8 x.kind, .bool x.left, .int .i64 x.wide], .string s] w fun e w' => e = .returned (.string (padP s x.wide x.left)) ∧ Below w.heap.size w w' := by
  obtain ⟨kd, tx, wd, lf⟩ := x
  simp only at h0 h1 ⊢
  have HB0 := Lib.hid ((Below.refl w.heap.size w).alloc (Nat.le_refl _) (.cells #[.string tx, .int .u8 kd, .bool lf, .int .i64 wd] 59))
  have hN := heap_alloc_new w (.cells #[.string tx, .int .u8 kd, .bool lf, .int .i64 wd] 59)
  have hr := fun W => rep_bl (wd.toNat - s.size) (by omega) W
  have hm : max (0 : Int) (wd - (s.size : Int)) = ((wd.toNat - s.size : Nat) : Int) := by omega
  have hw1 : IntKind.i64.wrap (wd - (s.size : Int)) = wd - (s.size : Int) := by rw [IntKind.wrap_i64]; omega
  have E : padP s wd lf = if lf = true then s ++ blS (wd.toNat - s.size) else blS (wd.toNat - s.size) ++ s := rfl
  rw [E]; clear E
  have hbs := blS_size (wd.toNat - s.size)
  have hbz : (blS (wd.toNat - s.size)).size ≤ 1048576 := by omega
  generalize blS (wd.toNat - s.size) = bl at *
  generalize hk : wd.toNat - s.size = k at *
  have HR := Lib.hid hr; clear hr
  have HN := Lib.hid hN; clear hN
  clear hbs hk
  go_enter Tryz.func27, Tryz.ntmps27
  go_wp2_with fail
  refine (HR.out _).mono ?_
  rintro e w1 ⟨rfl, hB⟩
  have c2 : w1.cell? ⟨w.heap.size, 2, none⟩ = some (.bool lf) := (hB.cell (p := ⟨w.heap.size, 2, none⟩) (by simp)).trans (cell_of_row _ _ 2 _ _ _ HN.out)
  have HB1 := Lib.hid (HB0.out.trans (hB.mono HB0.out.size)); clear hB
  cases lf with
  | true =>
    go_wp2_with fail
    go_ret
    exact ⟨rfl, HB1.out⟩
  | false =>
    go_wp2_with fail
    go_ret
    exact ⟨rfl, HB1.out⟩

end Go.Proofs.YthaedmldlenhgaaGreatDoor.Cell
