/-
  Reckoning with values, the model's side: what Arith returns, kind by kind.
-/
import Derived.Test.YthaedmldlenhgaaDoorCellArith
namespace Go.Proofs.YthaedmldlenhgaaDoor.Cell
open Go.ChangeShapes Go.WideShapes Go.ChangeAt Go.RowKit Go.PlainAid
open Go.Proofs.YthaedmldlenhgaaDoor.Dec
open Go.Proofs.YthaedmldlenhgaaDoor.DecPure Go.Proofs.YthaedmldlenhgaaDoor.TextPure Go.Proofs.YthaedmldlenhgaaDoor.ReadPure Go.Proofs.YthaedmldlenhgaaDoor.CellPure
set_option linter.unusedVariables false

















theorem impl_arith (k t n : Int) (s : ByteArray) (t' n' : Int) (s' : ByteArray) (hs : s.size ≤ 1048576) (hs' : s'.size ≤ 1048576) (w : World) : Calls Tryd.prog 30 #[.int .i64 k, cel t n s, cel t' n' s'] w (ArIs k t n s t' n' s' w) := by
  by_cases h : k < 20 ∨ 24 < k
  · exact impl_arith_low k t n s t' n' s' hs hs' h w
  have h1 : 20 ≤ k := by omega
  have h2 : k ≤ 24 := by omega
  cases ha : cOk t n s with
  | false => exact impl_arith_bad k t n s t' n' s' hs hs' h1 h2 (by rw [ha, Bool.false_and]) w
  | true =>
    cases hb : cOk t' n' s' with
    | false => exact impl_arith_bad k t n s t' n' s' hs hs' h1 h2 (by rw [hb, Bool.and_false]) w
    | true =>
      cases hd : ((k == 23) || (k == 24)) with
      | true =>
        by_cases hy : cNum t' n' s' = 0
        · exact impl_arith_zero k t n s t' n' s' hs hs' h1 h2 ha hb hd hy w
        · cases ho : arB k (cNum t n s) (cNum t' n' s') with
          | true => exact impl_arith_dgood k t n s t' n' s' hs hs' h1 h2 ha hb hd hy ho w
          | false => exact impl_arith_dover k t n s t' n' s' hs hs' h1 h2 ha hb hd hy ho w
      | false =>
        cases ho : arB k (cNum t n s) (cNum t' n' s') with
        | true => exact impl_arith_ngood k t n s t' n' s' hs hs' h1 h2 ha hb hd ho w
        | false => exact impl_arith_nover k t n s t' n' s' hs hs' h1 h2 ha hb hd ho w

end Go.Proofs.YthaedmldlenhgaaDoor.Cell
