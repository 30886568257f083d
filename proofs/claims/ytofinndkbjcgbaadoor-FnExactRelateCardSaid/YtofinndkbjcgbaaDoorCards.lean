/-
  DERIVED. GIVEN WITH THE SEED: THE CARDS: each row of YtofinndkbjcgbaaDoorRows.lean that lists a variable, with what it lists TIED to the program's text (the seventh form; the later family's looks); each row that meets fmt, with fmt's text TOLD by the authors' own Lean function (tested against real Go, not proved from fmt's source: count such statements apart). THE CARD IS WHAT COUNTS. Prove the row's statement (the work); the ties are given (YtofinndkbjcgbaaDoorTie.lean); close each card by the builder's one call (the guide's Derived/Test/ToyasCard.lean, 'card_holds'). Laid BY PROGRAM, IN A SANDBOX (cutbox-door.mjs). By AI agents, Wed Nov 11 2026. No macro, syntax, notation, axiom, sorry.
-/
import Derived.Test.YtofinndkbjcgbaaDoorRows
import GoSem.ClaimSeven
namespace Go.Proofs.YtofinndkbjcgbaaDoor
namespace Rows

/-- THE TIED CARD OF 'laws.FnExactPlaces'. -/
def fnExactPlacesCard : Claim7 := { stood := { row := fnExactPlacesRow, standIns := [], harness := (true, "71d5a41629589ae4873de2f6c817be9edffbbfc280a5b3a213c5ea59be203cbe"), looks := false }, kinds := [], alts := [], laidByText := true, laidKinds := [.data, .data, .data], laidTests := true, laidLooks := .later }
def FnExactPlacesCardSaid : Prop := Claim7.holds Tryd.pinned (.plain (OpenSpec.ofChange fnExactPlacesSpec)) fnExactPlacesCard

/-- THE TIED CARD OF 'laws.FnExactFormat'. -/
def fnExactFormatCard : Claim7 := { stood := { row := fnExactFormatRow, standIns := [], harness := (true, "71d5a41629589ae4873de2f6c817be9edffbbfc280a5b3a213c5ea59be203cbe"), looks := false }, kinds := [], alts := [], laidByText := true, laidKinds := [.data, .data, .data], laidTests := true, laidLooks := .later }
def FnExactFormatCardSaid : Prop := Claim7.holds Tryd.pinned (.plain (OpenSpec.ofChange fnExactFormatSpec)) fnExactFormatCard

/-- THE TIED CARD OF 'laws.FnExactPlaceKinds'. -/
def fnExactPlaceKindsCard : Claim7 := { stood := { row := fnExactPlaceKindsRow, standIns := [], harness := (true, "71d5a41629589ae4873de2f6c817be9edffbbfc280a5b3a213c5ea59be203cbe"), looks := false }, kinds := [], alts := [], laidByText := true, laidKinds := [.data, .data, .data], laidTests := true, laidLooks := .later }
def FnExactPlaceKindsCardSaid : Prop := Claim7.holds Tryd.pinned (.plain (OpenSpec.ofChange fnExactPlaceKindsSpec)) fnExactPlaceKindsCard

/-- THE TIED CARD OF 'laws.FnExactCompare'. -/
def fnExactCompareCard : Claim7 := { stood := { row := fnExactCompareRow, standIns := [], harness := (true, "71d5a41629589ae4873de2f6c817be9edffbbfc280a5b3a213c5ea59be203cbe"), looks := false }, kinds := [], alts := [], laidByText := true, laidKinds := [.data, .data, .data], laidTests := true, laidLooks := .later }
def FnExactCompareCardSaid : Prop := Claim7.holds Tryd.pinned (.plain (OpenSpec.ofChange fnExactCompareSpec)) fnExactCompareCard

/-- THE TIED CARD OF 'laws.FnExactRelate'. -/
def fnExactRelateCard : Claim7 := { stood := { row := fnExactRelateRow, standIns := [], harness := (true, "71d5a41629589ae4873de2f6c817be9edffbbfc280a5b3a213c5ea59be203cbe"), looks := false }, kinds := [], alts := [], laidByText := true, laidKinds := [.data, .data, .data], laidTests := true, laidLooks := .later }
def FnExactRelateCardSaid : Prop := Claim7.holds Tryd.pinned (.plain (OpenSpec.ofChange fnExactRelateSpec)) fnExactRelateCard

/-- THE TIED CARD OF 'laws.FnCompares'. -/
def fnComparesCard : Claim7 := { stood := { row := fnComparesRow, standIns := [], harness := (true, "71d5a41629589ae4873de2f6c817be9edffbbfc280a5b3a213c5ea59be203cbe"), looks := false }, kinds := [], alts := [], laidByText := true, laidKinds := [.data, .data, .data], laidTests := true, laidLooks := .later }
def FnComparesCardSaid : Prop := Claim7.holds Tryd.pinned (.plain (OpenSpec.ofChange fnComparesSpec)) fnComparesCard

/-- THE TIED CARD OF 'laws.FnAriths'. -/
def fnArithsCard : Claim7 := { stood := { row := fnArithsRow, standIns := [], harness := (true, "71d5a41629589ae4873de2f6c817be9edffbbfc280a5b3a213c5ea59be203cbe"), looks := false }, kinds := [], alts := [], laidByText := true, laidKinds := [.data, .data, .data], laidTests := true, laidLooks := .later }
def FnArithsCardSaid : Prop := Claim7.holds Tryd.pinned (.plain (OpenSpec.ofChange fnArithsSpec)) fnArithsCard

/-- THE SECOND FORM's CARD OF 'laws.FnExactPlaces'. -/
def fnExactPlacesUptoCard : Claim7 := { stood := { row := fnExactPlacesUptoRow, standIns := [], harness := (true, "71d5a41629589ae4873de2f6c817be9edffbbfc280a5b3a213c5ea59be203cbe"), looks := false }, kinds := [], alts := [], laidByText := true, laidKinds := [.data, .data, .data], laidTests := true, laidLooks := .later }
def FnExactPlacesUptoCardSaid : Prop := Claim7.holds Tryd.pinned (.plain (OpenSpec.upto fnExactPlacesSpec)) fnExactPlacesUptoCard

/-- THE SECOND FORM's CARD OF 'laws.FnExactFormat'. -/
def fnExactFormatUptoCard : Claim7 := { stood := { row := fnExactFormatUptoRow, standIns := [], harness := (true, "71d5a41629589ae4873de2f6c817be9edffbbfc280a5b3a213c5ea59be203cbe"), looks := false }, kinds := [], alts := [], laidByText := true, laidKinds := [.data, .data, .data], laidTests := true, laidLooks := .later }
def FnExactFormatUptoCardSaid : Prop := Claim7.holds Tryd.pinned (.plain (OpenSpec.upto fnExactFormatSpec)) fnExactFormatUptoCard

/-- THE SECOND FORM's CARD OF 'laws.FnExactPlaceKinds'. -/
def fnExactPlaceKindsUptoCard : Claim7 := { stood := { row := fnExactPlaceKindsUptoRow, standIns := [], harness := (true, "71d5a41629589ae4873de2f6c817be9edffbbfc280a5b3a213c5ea59be203cbe"), looks := false }, kinds := [], alts := [], laidByText := true, laidKinds := [.data, .data, .data], laidTests := true, laidLooks := .later }
def FnExactPlaceKindsUptoCardSaid : Prop := Claim7.holds Tryd.pinned (.plain (OpenSpec.upto fnExactPlaceKindsSpec)) fnExactPlaceKindsUptoCard

/-- THE SECOND FORM's CARD OF 'laws.FnExactCompare'. -/
def fnExactCompareUptoCard : Claim7 := { stood := { row := fnExactCompareUptoRow, standIns := [], harness := (true, "71d5a41629589ae4873de2f6c817be9edffbbfc280a5b3a213c5ea59be203cbe"), looks := false }, kinds := [], alts := [], laidByText := true, laidKinds := [.data, .data, .data], laidTests := true, laidLooks := .later }
def FnExactCompareUptoCardSaid : Prop := Claim7.holds Tryd.pinned (.plain (OpenSpec.upto fnExactCompareSpec)) fnExactCompareUptoCard

/-- THE SECOND FORM's CARD OF 'laws.FnExactRelate'. -/
def fnExactRelateUptoCard : Claim7 := { stood := { row := fnExactRelateUptoRow, standIns := [], harness := (true, "71d5a41629589ae4873de2f6c817be9edffbbfc280a5b3a213c5ea59be203cbe"), looks := false }, kinds := [], alts := [], laidByText := true, laidKinds := [.data, .data, .data], laidTests := true, laidLooks := .later }
def FnExactRelateUptoCardSaid : Prop := Claim7.holds Tryd.pinned (.plain (OpenSpec.upto fnExactRelateSpec)) fnExactRelateUptoCard

/-- THE SECOND FORM's CARD OF 'laws.FnCompares'. -/
def fnComparesUptoCard : Claim7 := { stood := { row := fnComparesUptoRow, standIns := [], harness := (true, "71d5a41629589ae4873de2f6c817be9edffbbfc280a5b3a213c5ea59be203cbe"), looks := false }, kinds := [], alts := [], laidByText := true, laidKinds := [.data, .data, .data], laidTests := true, laidLooks := .later }
def FnComparesUptoCardSaid : Prop := Claim7.holds Tryd.pinned (.plain (OpenSpec.upto fnComparesSpec)) fnComparesUptoCard

/-- THE SECOND FORM's CARD OF 'laws.FnAriths'. -/
def fnArithsUptoCard : Claim7 := { stood := { row := fnArithsUptoRow, standIns := [], harness := (true, "71d5a41629589ae4873de2f6c817be9edffbbfc280a5b3a213c5ea59be203cbe"), looks := false }, kinds := [], alts := [], laidByText := true, laidKinds := [.data, .data, .data], laidTests := true, laidLooks := .later }
def FnArithsUptoCardSaid : Prop := Claim7.holds Tryd.pinned (.plain (OpenSpec.upto fnArithsSpec)) fnArithsUptoCard
end Rows
end Go.Proofs.YtofinndkbjcgbaaDoor
