/-
  The laws' own look at values: it returns true.
-/
import Derived.Test.YthaedmldlenhgaaDoorCellRel
import Derived.Test.YthaedmldlenhgaaDoorCellArith2
import Derived.Test.YthaedmldlenhgaaDoorSub
namespace Go.Proofs.YthaedmldlenhgaaDoor.Cell
open Go.ChangeShapes Go.WideShapes Go.ChangeAt Go.RowKit Go.PlainAid
open Go.Proofs.YthaedmldlenhgaaDoor.Dec
open Go.Proofs.YthaedmldlenhgaaDoor.DecPure Go.Proofs.YthaedmldlenhgaaDoor.TextPure Go.Proofs.YthaedmldlenhgaaDoor.ReadPure Go.Proofs.YthaedmldlenhgaaDoor.CellPure Go.Proofs.YthaedmldlenhgaaDoor.SubPure
set_option linter.unusedVariables false

/-- The library's variable holds some int. -/
def Held (w : World) : Prop := ∃ m : Int, w.cell? ⟨0, 0, none⟩ = some (.int .i64 m)
theorem Held.below {w w' : World} (h : Held w) (hB : Below w.heap.size w w') : Held w' := by
  obtain ⟨m, hm⟩ := h
  exact ⟨m, (hB.cell (p := ⟨0, 0, none⟩) (World.block_lt_of_cell? w _ hm)).trans hm⟩

set_option maxRecDepth 100000 in
set_option maxHeartbeats 2000000 in
theorem cells_alive (w : World) (htab : Go.Proofs.YthaedmldlenhgaaDoor.Dec.Tables w) (hm : Held w) : Calls Tryd.prog 7 #[] w fun e w' => e = .returned (.bool true) ∧ Below w.heap.size w w' := by
  have h1 : ∀ W, Calls Tryd.prog 6 #[.string ⟨#[51]⟩] W fun e w' => e = .returned (cel 3 3000000 ⟨#[51]⟩) ∧ Below W.heap.size W w' := fun W => by
    have h := impl_field ⟨#[51]⟩ (by decide) W
    rw [show fT ⟨#[51]⟩ = 3 from by decide +kernel, show fN ⟨#[51]⟩ = 3000000 from by decide +kernel, show fS ⟨#[51]⟩ = ⟨#[51]⟩ from by decide +kernel] at h
    exact h
  have h2 : ∀ W, Calls Tryd.prog 30 #[.int .i64 20, cel 3 3000000 ⟨#[51]⟩, cel 1 1000000 ⟨#[]⟩] W fun e w' => e = .returned (two 1 4000000 ⟨#[]⟩ 0) ∧ Below W.heap.size W w' := fun W => by
    have h := impl_arith 20 3 3000000 ⟨#[51]⟩ 1 1000000 ⟨#[]⟩ (by decide) (by decide) W
    unfold ArIs at h
    rw [show arT 20 3 3000000 ⟨#[51]⟩ 1 1000000 ⟨#[]⟩ = 1 from by decide +kernel, show arN 20 3 3000000 ⟨#[51]⟩ 1 1000000 ⟨#[]⟩ = 4000000 from by decide +kernel, show arC 20 3 3000000 ⟨#[51]⟩ 1 1000000 ⟨#[]⟩ = 0 from by decide +kernel] at h
    exact h
  have h3 : ∀ W, Go.Proofs.YthaedmldlenhgaaDoor.Dec.Tables W → Calls Tryd.prog 11 #[cel 1 4000000 ⟨#[]⟩] W fun e w' => e = .returned (.string ⟨#[52]⟩) ∧ Below W.heap.size W w' := fun W hW => by
    have h := impl_toStr 1 4000000 ⟨#[]⟩ (by decide) W hW
    rw [show cStr 1 4000000 ⟨#[]⟩ = ⟨#[52]⟩ from by decide +kernel] at h
    exact h
  have h4 : ∀ W, Calls Tryd.prog 31 #[cel 1 4000000 ⟨#[]⟩] W fun e w' => e = .returned (.bool true) ∧ Below W.heap.size W w' := fun W => by
    have h := impl_truth 1 4000000 ⟨#[]⟩ (by decide) W
    rw [show cTru 1 4000000 ⟨#[]⟩ = true from by decide +kernel] at h
    exact h
  have h5 : ∀ W, Go.Proofs.YthaedmldlenhgaaDoor.Dec.Tables W → Calls Tryd.prog 32 #[cel 3 3000000 ⟨#[51]⟩, cel 1 4000000 ⟨#[]⟩] W fun e w' => e = .returned (.int .i64 (-1)) ∧ Below W.heap.size W w' := fun W hW => by
    have h := impl_compare 3 3000000 ⟨#[51]⟩ 1 4000000 ⟨#[]⟩ (by decide) (by decide) W hW
    rw [show cCmp 3 3000000 ⟨#[51]⟩ 1 4000000 ⟨#[]⟩ = -1 from by decide +kernel] at h
    exact h
  have h6 : ∀ W, Held W → Calls Tryd.prog 15 #[.string ⟨#[97, 98, 99]⟩, .string ⟨#[99]⟩] W fun e w' => e = .returned (.int .i64 3) ∧ W = w' := fun W hW => by
    obtain ⟨m, hW⟩ := hW
    have h := impl_index ⟨#[97, 98, 99]⟩ ⟨#[99]⟩ m (by decide) (by decide) W hW
    rw [show ixN ⟨#[97, 98, 99]⟩ ⟨#[99]⟩ = 3 from by decide +kernel] at h
    exact h
  have H1 := Lib.hid h1
  have H2 := Lib.hid h2
  have H3 := Lib.hid h3
  have H4 := Lib.hid h4
  have H5 := Lib.hid h5
  have H6 := Lib.hid h6
  clear h1 h2 h3 h4 h5 h6
  have HT := Lib.hid htab; clear htab
  have HM := Lib.hid hm; clear hm
  go_enter Tryd.func7, Tryd.ntmps7
  go_wp2_with fail
  refine (H1.out _).mono ?_
  rintro e w1 ⟨rfl, hB⟩
  have HC := Lib.hid (CB.new w1 (.int .i64 3) (.int .i64 3000000) (.string ⟨#[51]⟩))
  have HB1 := Lib.hid (hB.alloc hB.size (.cells #[.int .i64 3, .int .i64 3000000, .string ⟨#[51]⟩] 25)); clear hB
  go_wp2_with fail
  generalize w1.alloc (.cells #[.int .i64 3, .int .i64 3000000, .string ⟨#[51]⟩] 25) = v1 at *
  generalize w1.heap.size = gc at *
  refine (H2.out _).mono ?_
  rintro e w2 ⟨rfl, hB⟩
  have hl := (HC.out.next hB)
  have HX := Lib.hid (CB.new w2 (.int .i64 1) (.int .i64 4000000) (.string ⟨#[]⟩))
  have HC2 := Lib.hid (hl.keep ((Below.refl w2.heap.size w2).alloc (Nat.le_refl _) (.cells #[.int .i64 1, .int .i64 4000000, .string ⟨#[]⟩] 25)) hl.lt); clear hl
  have hB2 := HB1.out.trans (hB.mono HB1.out.size)
  have HB2 := Lib.hid (hB2.alloc hB2.size (.cells #[.int .i64 1, .int .i64 4000000, .string ⟨#[]⟩] 25)); clear hB hB2
  obtain ⟨c0, c1, c2⟩ := HC2.out.cells
  obtain ⟨x0, x1, x2⟩ := HX.out.cells
  go_wp2_with fail
  refine (H3.out _ (HT.out.below HB2.out)).mono ?_
  rintro e w3 ⟨rfl, hB⟩
  have HC3 := Lib.hid (HC2.out.next hB)
  have HX3 := Lib.hid (HX.out.next hB)
  have HB3 := Lib.hid (HB2.out.trans (hB.mono HB2.out.size)); clear hB c0 c1 c2 x0 x1 x2
  obtain ⟨c0, c1, c2⟩ := HC3.out.cells
  obtain ⟨x0, x1, x2⟩ := HX3.out.cells
  go_wp2_with fail
  refine (H4.out _).mono ?_
  rintro e w4 ⟨rfl, hB⟩
  have HC4 := Lib.hid (HC3.out.next hB)
  have HX4 := Lib.hid (HX3.out.next hB)
  have HB4 := Lib.hid (HB3.out.trans (hB.mono HB3.out.size)); clear hB c0 c1 c2 x0 x1 x2
  obtain ⟨c0, c1, c2⟩ := HC4.out.cells
  obtain ⟨x0, x1, x2⟩ := HX4.out.cells
  go_wp2_with fail
  refine (H5.out _ (HT.out.below HB4.out)).mono ?_
  rintro e w5 ⟨rfl, hB⟩
  have HB5 := Lib.hid (HB4.out.trans (hB.mono HB4.out.size)); clear hB c0 c1 c2 x0 x1 x2
  go_wp2_with fail
  refine (H6.out _ (HM.out.below HB5.out)).mono ?_
  rintro e w6 ⟨rfl, rfl⟩
  go_wp2_with fail
  go_ret
  exact ⟨rfl, HB5.out⟩

end Go.Proofs.YthaedmldlenhgaaDoor.Cell
