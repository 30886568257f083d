/-
  The table of powers of ten, as the rows list it; and that it stays behind a call that writes new blocks alone.
-/
import Derived.Test.YthaedmldlenhgaaDoorFrame
import Derived.Test.YthaedmldlenhgaaDoorDecText
import Derived.WalkSmall
namespace Go.Proofs.YthaedmldlenhgaaDoor.Dec
open Go.ChangeShapes Go.WideShapes Go.ChangeAt Go.RowKit
open Go.Proofs.YthaedmldlenhgaaDoor.DecPure Go.Proofs.YthaedmldlenhgaaDoor.TextPure Go.Proofs.YthaedmldlenhgaaDoor.Fmt
set_option linter.unusedVariables false

theorem gTab : Tryd.prog.globalNamed "internal/strconv.uint64pow10" = some 3 := by kernel_rfl
theorem gTabType : (Tryd.prog.globals[3]?).map (·.type) = some 97 := by kernel_rfl
theorem cellsTab : Tryd.prog.cellsOf 97 = 20 := by kernel_rfl
theorem cellsU64 : Tryd.prog.cellsOf 81 = 1 := by kernel_rfl
theorem tabs {W : World} {x y : String × DataW Unit} (h : laidMet Tryd.prog [x, y, ("internal/strconv.uint64pow10", Rows.laid_internal_strconv_uint64pow10)] W) : Tables W := by
  obtain ⟨ps, ⟨_, _, _, _, _, _, _, _, _, _, h2, _⟩, _⟩ := h
  obtain ⟨_, _, _, _, _, _, _, _, _, _, h3, _⟩ := h2
  obtain ⟨g', t', cs, fuel, p, q, hg', ht', hvar, hd, _, _⟩ := h3
  obtain rfl := Option.some.inj (gTab.symm.trans hg')
  obtain rfl := Option.some.inj (gTabType.symm.trans ht')
  have hd' : DataW.trod _ Tryd.prog W 0 _ _ fuel 97 cs.toList = some (Lib.tabData .u64 Lib.pow10Tab, p) := hd
  unfold Tables Lib.TabIs
  rw [hvar, ← Lib.cells_of_tab Tryd.underlying97 Tryd.underlying81 cellsU64 cellsTab hd']

theorem Tables.below {w w' : World} (h : Tables w) (hb : Below w.heap.size w w') : Tables w' := by
  have hlt : 3 < w.heap.size := by
    have hv : w.var? Tryd.prog "internal/strconv.uint64pow10" = _ := h
    unfold World.var? at hv
    simp only [gTab, Option.bind_some] at hv
    rcases Nat.lt_or_ge 3 w.heap.size with hl | hg
    · exact hl
    · rw [Array.getElem?_eq_none hg] at hv; cases hv
  exact var?_below hb gTab hlt h
end Go.Proofs.YthaedmldlenhgaaDoor.Dec
