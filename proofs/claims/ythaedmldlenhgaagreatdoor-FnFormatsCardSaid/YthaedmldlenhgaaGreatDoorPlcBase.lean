/-
  Places of a format, of the model.
-/
import Derived.Test.YthaedmldlenhgaaGreatDoorRowB
import Derived.Laws.Concat
import Derived.Deep.RegionWith
import Derived.Test.YthaedmldlenhgaaGreatDoorRead
import Derived.Lib.SmallJoins
import Derived.Test.YthaedmldlenhgaaGreatDoorPlcPure
namespace Go.Proofs.YthaedmldlenhgaaGreatDoor.Strs
open Go.ChangeShapes Go.WideShapes Go.ChangeAt Go.RowKit Go.PlainAid
open Go.Proofs.YthaedmldlenhgaaGreatDoor.Dec Go.Proofs.YthaedmldlenhgaaGreatDoor.Cell
open Go.Proofs.YthaedmldlenhgaaGreatDoor.DecPure Go.Proofs.YthaedmldlenhgaaGreatDoor.ReadPure
set_option linter.unusedVariables false

/-- A place that lies in a block of its own. -/
def PB (w : World) (g : Nat) (k n : Int) (l : Bool) (e : Int) : Prop := w.heap[g]? = some (.cells #[.int .u8 k, .int .i64 n, .bool l, .int .i64 e] 70 (0, 0))
theorem PB.new (w : World) (k n : Int) (l : Bool) (e : Int) : PB (w.alloc (.cells #[.int .u8 k, .int .i64 n, .bool l, .int .i64 e] 70)) w.heap.size k n l e := heap_alloc_new w _
theorem PB.lt {w : World} {g : Nat} {k n : Int} {l : Bool} {e : Int} (h : PB w g k n l e) : g < w.heap.size := by
  have h' : w.heap[g]? = some (.cells #[.int .u8 k, .int .i64 n, .bool l, .int .i64 e] 70 (0, 0)) := h
  exact (Array.getElem?_eq_some_iff.1 h').1
theorem PB.alloc {w : World} {g : Nat} {k n : Int} {l : Bool} {e : Int} (h : PB w g k n l e) (o : Obj) : PB (w.alloc o) g k n l e := (Below.heap_alloc w o g h.lt).trans h
theorem PB.cells {w : World} {g : Nat} {k n : Int} {l : Bool} {e : Int} (h : PB w g k n l e) : w.cell? ⟨g, 0, none⟩ = some (.int .u8 k) ∧ w.cell? ⟨g, 1, none⟩ = some (.int .i64 n) ∧ w.cell? ⟨g, 2, none⟩ = some (.bool l) ∧ w.cell? ⟨g, 3, none⟩ = some (.int .i64 e) :=
  ⟨cell_of_row w g 0 _ _ _ h, cell_of_row w g 1 _ _ _ h, cell_of_row w g 2 _ _ _ h, cell_of_row w g 3 _ _ _ h⟩
theorem PB.marks {w : World} {g : Nat} {k n : Int} {l : Bool} {e : Int} (h : PB w g k n l e) (i : Nat) : w.frozen? ⟨g, i, none⟩ = false := by
  unfold World.frozen?
  have h' : w.heap[g]? = some (.cells #[.int .u8 k, .int .i64 n, .bool l, .int .i64 e] 70 (0, 0)) := h
  rw [h']; simp
theorem PB.set1 {w : World} {g : Nat} {k n : Int} {l : Bool} {e : Int} (h : PB w g k n l e) (x : Int) : PB (w.setCell ⟨g, 1, none⟩ (.int .i64 x)) g k x l e := by
  have h' : w.heap[g]? = some (.cells #[.int .u8 k, .int .i64 n, .bool l, .int .i64 e] 70 (0, 0)) := h
  unfold PB
  simp [World.setCell, Array.getElem?_modify, h']
theorem PB.set0 {w : World} {g : Nat} {k n : Int} {l : Bool} {e : Int} (h : PB w g k n l e) (x : Int) : PB (w.setCell ⟨g, 0, none⟩ (.int .u8 x)) g x n l e := by
  have h' : w.heap[g]? = some (.cells #[.int .u8 k, .int .i64 n, .bool l, .int .i64 e] 70 (0, 0)) := h
  unfold PB
  simp [World.setCell, Array.getElem?_modify, h']
theorem PB.set3 {w : World} {g : Nat} {k n : Int} {l : Bool} {e : Int} (h : PB w g k n l e) (x : Int) : PB (w.setCell ⟨g, 3, none⟩ (.int .i64 x)) g k n l x := by
  have h' : w.heap[g]? = some (.cells #[.int .u8 k, .int .i64 n, .bool l, .int .i64 e] 70 (0, 0)) := h
  unfold PB
  simp [World.setCell, Array.getElem?_modify, h']
theorem PB.all {w : World} {g : Nat} {k n : Int} {l : Bool} {e : Int} (h : PB w g k n l e) (k' n' : Int) (l' : Bool) (e' : Int) :
    PB ((((w.setCell ⟨g, 0, none⟩ (.int .u8 k')).setCell ⟨g, 1, none⟩ (.int .i64 n')).setCell ⟨g, 2, none⟩ (.bool l')).setCell ⟨g, 3, none⟩ (.int .i64 e')) g k' n' l' e' := by
  have h' : w.heap[g]? = some (.cells #[.int .u8 k, .int .i64 n, .bool l, .int .i64 e] 70 (0, 0)) := h
  unfold PB
  simp [World.setCell, Array.getElem?_modify, h']
theorem PB.other {w : World} {g h : Nat} {k n : Int} {l : Bool} {e : Int} (p : PB w g k n l e) (hne : h ≠ g) (i : Nat) (x : Value) : PB (w.setCell ⟨h, i, none⟩ x) g k n l e := by
  have h' : w.heap[g]? = some (.cells #[.int .u8 k, .int .i64 n, .bool l, .int .i64 e] 70 (0, 0)) := p
  unfold PB
  simp [World.setCell, Array.getElem?_modify, h', hne]
theorem PB.results {fn : Func} {p : Tmp} (h : fn.results = #[.cell p 70]) {tmps : Array Value} {w : World} {g : Nat} {k n : Int} {l : Bool} {e : Int} (T : PB w g k n l e)
    (hp : tmps.getD p undef = .pointer (some ⟨g, 0, none⟩)) : (results fn tmps).run Tryz.prog w = .ok (.agg #[.int .u8 k, .int .i64 n, .bool l, .int .i64 e]) w :=
  results_cell_row h _ _ g 70 #[.int .u8 k, .int .i64 n, .bool l, .int .i64 e] (0, 0) _ hp T Tryz.underlying70 rfl (by kernel_rfl)
theorem below_all {B g : Nat} {w w1 : World} (h : Below B w w1) (hg : B ≤ g) (x y z u : Value) : Below B w ((((w1.setCell ⟨g, 0, none⟩ x).setCell ⟨g, 1, none⟩ y).setCell ⟨g, 2, none⟩ z).setCell ⟨g, 3, none⟩ u) :=
  (((h.setCell (by simpa using hg) _).setCell (by simpa using hg) _).setCell (by simpa using hg) _).setCell (by simpa using hg) _

def PlcEnd (p : Plc) (w : World) (e : Ending) (w' : World) : Prop := e = .returned p.val ∧ Below w.heap.size w w'

end Go.Proofs.YthaedmldlenhgaaGreatDoor.Strs
