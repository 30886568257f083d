/-
  The table of powers of ten, as the rows list it; and that it stays behind a call that writes new blocks alone.
-/
import Derived.Test.YthaedmldlenhgaaGreatDoorFrame
import Derived.Test.YthaedmldlenhgaaGreatDoorDecText
import Derived.WalkSmall
namespace Go.Proofs.YthaedmldlenhgaaGreatDoor.Dec
open Go.ChangeShapes Go.WideShapes Go.ChangeAt Go.RowKit
open Go.Proofs.YthaedmldlenhgaaGreatDoor.DecPure Go.Proofs.YthaedmldlenhgaaGreatDoor.TextPure Go.Proofs.YthaedmldlenhgaaGreatDoor.Fmt
set_option linter.unusedVariables false

theorem gTab : Tryz.prog.globalNamed "internal/strconv.uint64pow10" = some 2 := by kernel_rfl
theorem gTabType : (Tryz.prog.globals[2]?).map (·.type) = some 208 := by kernel_rfl
theorem cellsTab : Tryz.prog.cellsOf 208 = 20 := by kernel_rfl
theorem cellsU64 : Tryz.prog.cellsOf 171 = 1 := by kernel_rfl
theorem tabs {W : World} {x y : String × DataW Unit} (h : laidMet Tryz.prog [x, y, ("internal/strconv.uint64pow10", Rows.laid_internal_strconv_uint64pow10)] W) : Tables W := by
  obtain ⟨ps, ⟨_, _, _, _, _, _, _, _, _, _, h2, _⟩, _⟩ := h
  obtain ⟨_, _, _, _, _, _, _, _, _, _, h3, _⟩ := h2
  obtain ⟨g', t', cs, fuel, p, q, hg', ht', hvar, hd, _, _⟩ := h3
  obtain rfl := Option.some.inj (gTab.symm.trans hg')
  obtain rfl := Option.some.inj (gTabType.symm.trans ht')
  have hd' : DataW.trod _ Tryz.prog W 0 _ _ fuel 208 cs.toList = some (Lib.tabData .u64 Lib.pow10Tab, p) := hd
  unfold Tables Lib.TabIs
  rw [hvar, ← Lib.cells_of_tab Tryz.underlying208 Tryz.underlying171 cellsU64 cellsTab hd']

theorem Tables.below {w w' : World} (h : Tables w) (hb : Below w.heap.size w w') : Tables w' := by
  have hlt : 2 < w.heap.size := by
    have hv : w.var? Tryz.prog "internal/strconv.uint64pow10" = _ := h
    unfold World.var? at hv
    simp only [gTab, Option.bind_some] at hv
    rcases Nat.lt_or_ge 2 w.heap.size with hl | hg
    · exact hl
    · rw [Array.getElem?_eq_none hg] at hv; cases hv
  exact var?_below hb gTab hlt h
end Go.Proofs.YthaedmldlenhgaaGreatDoor.Dec
