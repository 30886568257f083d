/-
  Comparing two values: the model's side; relations.
-/
import Derived.Test.YthaedmldlenhgaaDoorCellText
import Derived.Test.YthaedmldlenhgaaDoorDecText
import Derived.Test.YthaedmldlenhgaaDoorTables
import Derived.Laws.Cover1
namespace Go.Proofs.YthaedmldlenhgaaDoor.Cell
open Go.ChangeShapes Go.WideShapes Go.ChangeAt Go.RowKit Go.PlainAid
open Go.Proofs.YthaedmldlenhgaaDoor.Dec
open Go.Proofs.YthaedmldlenhgaaDoor.DecPure Go.Proofs.YthaedmldlenhgaaDoor.TextPure Go.Proofs.YthaedmldlenhgaaDoor.ReadPure Go.Proofs.YthaedmldlenhgaaDoor.CellPure
set_option linter.unusedVariables false




























end Go.Proofs.YthaedmldlenhgaaDoor.Cell
