/-
  The library's division of a number of 128 bits by a million, and what DecMul of the program returns.
-/
import Derived.Test.YthaedmldlenhgaaGreatDoorMul
import Derived.Laws.BitsAllLaws
namespace Go.Proofs.YthaedmldlenhgaaGreatDoor.Dec
open Go.ChangeShapes Go.WideShapes Go.ChangeAt Go.RowKit
open Go.Proofs.YthaedmldlenhgaaGreatDoor.DecPure
set_option linter.unusedVariables false









end Go.Proofs.YthaedmldlenhgaaGreatDoor.Dec
