/-
  DERIVED. GIVEN WITH THE SEED: THE CARDS: each row of YtjkidfkhnjhgfaaDoorRows.lean that lists a variable, with what it lists TIED to the program's text (the seventh form; the later family's looks); each row that meets fmt, with fmt's text TOLD by the authors' own Lean function (tested against real Go, not proved from fmt's source: count such statements apart). THE CARD IS WHAT COUNTS. Prove the row's statement (the work); the ties are given (YtjkidfkhnjhgfaaDoorTie.lean); close each card by the builder's one call (the guide's Derived/Test/ToyasCard.lean, 'card_holds'). Laid BY PROGRAM, IN A SANDBOX (cutbox-door.mjs). By AI agents, Wed Nov 11 2026. No macro, syntax, notation, axiom, sorry.
-/
import Derived.Test.YtjkidfkhnjhgfaaDoorRows
import GoSem.ClaimSeven
namespace Go.Proofs.YtjkidfkhnjhgfaaDoor
namespace Rows

/-- THE TIED CARD OF 'laws.FnCells'. -/
def fnCellsCard : Claim7 := { stood := { row := fnCellsRow, standIns := [], harness := (true, "cb4de8c35ba0bcd8758f969373cdb891a44fbee2741520bbb592300959f7b91d"), looks := false }, kinds := [], alts := [], laidByText := true, laidKinds := [.data, .data, .data], laidTests := true, laidLooks := .later }
def FnCellsCardSaid : Prop := Claim7.holds Tryd.pinned (.plain (OpenSpec.ofChange fnCellsSpec)) fnCellsCard

/-- THE TIED CARD OF 'laws.FnCompares'. -/
def fnComparesCard : Claim7 := { stood := { row := fnComparesRow, standIns := [], harness := (true, "cb4de8c35ba0bcd8758f969373cdb891a44fbee2741520bbb592300959f7b91d"), looks := false }, kinds := [], alts := [], laidByText := true, laidKinds := [.data, .data, .data], laidTests := true, laidLooks := .later }
def FnComparesCardSaid : Prop := Claim7.holds Tryd.pinned (.plain (OpenSpec.ofChange fnComparesSpec)) fnComparesCard

/-- THE TIED CARD OF 'laws.FnAriths'. -/
def fnArithsCard : Claim7 := { stood := { row := fnArithsRow, standIns := [], harness := (true, "cb4de8c35ba0bcd8758f969373cdb891a44fbee2741520bbb592300959f7b91d"), looks := false }, kinds := [], alts := [], laidByText := true, laidKinds := [.data, .data, .data], laidTests := true, laidLooks := .later }
def FnArithsCardSaid : Prop := Claim7.holds Tryd.pinned (.plain (OpenSpec.ofChange fnArithsSpec)) fnArithsCard

/-- THE TIED CARD OF 'laws.FnTexts'. -/
def fnTextsCard : Claim7 := { stood := { row := fnTextsRow, standIns := [], harness := (true, "cb4de8c35ba0bcd8758f969373cdb891a44fbee2741520bbb592300959f7b91d"), looks := false }, kinds := [], alts := [], laidByText := true, laidKinds := [.data, .data, .data], laidTests := true, laidLooks := .later }
def FnTextsCardSaid : Prop := Claim7.holds Tryd.pinned (.plain (OpenSpec.ofChange fnTextsSpec)) fnTextsCard

/-- THE TIED CARD OF 'laws.FnExactToStr'. -/
def fnExactToStrCard : Claim7 := { stood := { row := fnExactToStrRow, standIns := [], harness := (true, "cb4de8c35ba0bcd8758f969373cdb891a44fbee2741520bbb592300959f7b91d"), looks := false }, kinds := [], alts := [], laidByText := true, laidKinds := [.data, .data, .data], laidTests := true, laidLooks := .later }
def FnExactToStrCardSaid : Prop := Claim7.holds Tryd.pinned (.plain (OpenSpec.ofChange fnExactToStrSpec)) fnExactToStrCard

/-- THE TIED CARD OF 'laws.FnExactCompare'. -/
def fnExactCompareCard : Claim7 := { stood := { row := fnExactCompareRow, standIns := [], harness := (true, "cb4de8c35ba0bcd8758f969373cdb891a44fbee2741520bbb592300959f7b91d"), looks := false }, kinds := [], alts := [], laidByText := true, laidKinds := [.data, .data, .data], laidTests := true, laidLooks := .later }
def FnExactCompareCardSaid : Prop := Claim7.holds Tryd.pinned (.plain (OpenSpec.ofChange fnExactCompareSpec)) fnExactCompareCard

/-- THE TIED CARD OF 'laws.FnExactRelate'. -/
def fnExactRelateCard : Claim7 := { stood := { row := fnExactRelateRow, standIns := [], harness := (true, "cb4de8c35ba0bcd8758f969373cdb891a44fbee2741520bbb592300959f7b91d"), looks := false }, kinds := [], alts := [], laidByText := true, laidKinds := [.data, .data, .data], laidTests := true, laidLooks := .later }
def FnExactRelateCardSaid : Prop := Claim7.holds Tryd.pinned (.plain (OpenSpec.ofChange fnExactRelateSpec)) fnExactRelateCard

/-- THE SECOND FORM's CARD OF 'laws.FnCells'. -/
def fnCellsUptoCard : Claim7 := { stood := { row := fnCellsUptoRow, standIns := [], harness := (true, "cb4de8c35ba0bcd8758f969373cdb891a44fbee2741520bbb592300959f7b91d"), looks := false }, kinds := [], alts := [], laidByText := true, laidKinds := [.data, .data, .data], laidTests := true, laidLooks := .later }
def FnCellsUptoCardSaid : Prop := Claim7.holds Tryd.pinned (.plain (OpenSpec.upto fnCellsSpec)) fnCellsUptoCard

/-- THE SECOND FORM's CARD OF 'laws.FnCompares'. -/
def fnComparesUptoCard : Claim7 := { stood := { row := fnComparesUptoRow, standIns := [], harness := (true, "cb4de8c35ba0bcd8758f969373cdb891a44fbee2741520bbb592300959f7b91d"), looks := false }, kinds := [], alts := [], laidByText := true, laidKinds := [.data, .data, .data], laidTests := true, laidLooks := .later }
def FnComparesUptoCardSaid : Prop := Claim7.holds Tryd.pinned (.plain (OpenSpec.upto fnComparesSpec)) fnComparesUptoCard

/-- THE SECOND FORM's CARD OF 'laws.FnAriths'. -/
def fnArithsUptoCard : Claim7 := { stood := { row := fnArithsUptoRow, standIns := [], harness := (true, "cb4de8c35ba0bcd8758f969373cdb891a44fbee2741520bbb592300959f7b91d"), looks := false }, kinds := [], alts := [], laidByText := true, laidKinds := [.data, .data, .data], laidTests := true, laidLooks := .later }
def FnArithsUptoCardSaid : Prop := Claim7.holds Tryd.pinned (.plain (OpenSpec.upto fnArithsSpec)) fnArithsUptoCard

/-- THE SECOND FORM's CARD OF 'laws.FnTexts'. -/
def fnTextsUptoCard : Claim7 := { stood := { row := fnTextsUptoRow, standIns := [], harness := (true, "cb4de8c35ba0bcd8758f969373cdb891a44fbee2741520bbb592300959f7b91d"), looks := false }, kinds := [], alts := [], laidByText := true, laidKinds := [.data, .data, .data], laidTests := true, laidLooks := .later }
def FnTextsUptoCardSaid : Prop := Claim7.holds Tryd.pinned (.plain (OpenSpec.upto fnTextsSpec)) fnTextsUptoCard

/-- THE SECOND FORM's CARD OF 'laws.FnExactToStr'. -/
def fnExactToStrUptoCard : Claim7 := { stood := { row := fnExactToStrUptoRow, standIns := [], harness := (true, "cb4de8c35ba0bcd8758f969373cdb891a44fbee2741520bbb592300959f7b91d"), looks := false }, kinds := [], alts := [], laidByText := true, laidKinds := [.data, .data, .data], laidTests := true, laidLooks := .later }
def FnExactToStrUptoCardSaid : Prop := Claim7.holds Tryd.pinned (.plain (OpenSpec.upto fnExactToStrSpec)) fnExactToStrUptoCard

/-- THE SECOND FORM's CARD OF 'laws.FnExactCompare'. -/
def fnExactCompareUptoCard : Claim7 := { stood := { row := fnExactCompareUptoRow, standIns := [], harness := (true, "cb4de8c35ba0bcd8758f969373cdb891a44fbee2741520bbb592300959f7b91d"), looks := false }, kinds := [], alts := [], laidByText := true, laidKinds := [.data, .data, .data], laidTests := true, laidLooks := .later }
def FnExactCompareUptoCardSaid : Prop := Claim7.holds Tryd.pinned (.plain (OpenSpec.upto fnExactCompareSpec)) fnExactCompareUptoCard

/-- THE SECOND FORM's CARD OF 'laws.FnExactRelate'. -/
def fnExactRelateUptoCard : Claim7 := { stood := { row := fnExactRelateUptoRow, standIns := [], harness := (true, "cb4de8c35ba0bcd8758f969373cdb891a44fbee2741520bbb592300959f7b91d"), looks := false }, kinds := [], alts := [], laidByText := true, laidKinds := [.data, .data, .data], laidTests := true, laidLooks := .later }
def FnExactRelateUptoCardSaid : Prop := Claim7.holds Tryd.pinned (.plain (OpenSpec.upto fnExactRelateSpec)) fnExactRelateUptoCard
end Rows
end Go.Proofs.YtjkidfkhnjhgfaaDoor
