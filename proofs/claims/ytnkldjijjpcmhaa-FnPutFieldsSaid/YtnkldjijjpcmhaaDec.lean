/-
  What each function of the first chapter, of the program and of its model, returns: a contract a function.
-/
import Derived.Test.YtnkldjijjpcmhaaChecked
import Derived.Test.YtnkldjijjpcmhaaDecPure
import Derived.WalkKit
import Derived.ProofKit
import Derived.OpenShut
import Derived.Handy
import Derived.Lib.Hide
import Derived.Outline
namespace Go.Proofs.Ytnkldjijjpcmhaa.Dec
open Go.ChangeShapes Go.WideShapes Go.ChangeAt Go.RowKit
open Go.Proofs.Ytnkldjijjpcmhaa.DecPure
set_option linter.unusedVariables false






















end Go.Proofs.Ytnkldjijjpcmhaa.Dec
