/-
  Reckoning with values: what Arith of the program and of its model return.
-/
import Derived.Test.YthaedmldlenhgaaGreatDoorCellsOk
import Derived.Test.YthaedmldlenhgaaGreatDoorMul
import Derived.Test.YthaedmldlenhgaaGreatDoorDiv64
namespace Go.Proofs.YthaedmldlenhgaaGreatDoor.Cell
open Go.ChangeShapes Go.WideShapes Go.ChangeAt Go.RowKit Go.PlainAid
open Go.Proofs.YthaedmldlenhgaaGreatDoor.Dec
open Go.Proofs.YthaedmldlenhgaaGreatDoor.DecPure Go.Proofs.YthaedmldlenhgaaGreatDoor.TextPure Go.Proofs.YthaedmldlenhgaaGreatDoor.ReadPure Go.Proofs.YthaedmldlenhgaaGreatDoor.CellPure
set_option linter.unusedVariables false

abbrev two (t n : Int) (s : ByteArray) (c : Int) : Value := .tuple #[cel t n s, .int .i64 c]
theorem cell_results2 {fn : Func} {p u : Tmp} (h : fn.results = #[.cell p 33, .tmp u]) {tmps : Array Value} {w : World} {g : Nat} {a b c : Value} (T : CB w g a b c)
    (hp : tmps.getD p undef = .pointer (some ⟨g, 0, none⟩)) {x : Value} (hx : tmps.getD u undef = x) : (results fn tmps).run Tryz.prog w = .ok (.tuple #[.agg #[a, b, c], x]) w := by
  obtain ⟨r0, r1, r2⟩ := T.cells
  rw [results_cell_tmp h, hp, hx]
  simp [go_sem, r0, r1, r2]
theorem ret4 {a b c d i j : Int} {s t : ByteArray} (h : a = b) (g : c = d) (f : s = t) (k : i = j) : Ending.returned (two a c s i) = .returned (two b d t j) := by rw [h, g, f, k]


theorem below_go {a b c : World} (h : Below a.heap.size a b) (k : Below b.heap.size b c) : Below a.heap.size a c := h.trans (k.mono h.size)
theorem drewN_below (w : World) (n : Nat) : Below w.heap.size w (w.drewN n) := ⟨rfl, rfl, rfl, Nat.le_refl _, fun _ _ => rfl⟩


theorem ar_form {k t n : Int} {s : ByteArray} {t' n' : Int} {s' : ByteArray} (h : (decide (20 ≤ k ∧ k ≤ 24) && (cOk t n s && cOk t' n' s')) = false) :
    arT k t n s t' n' s' = 0 ∧ arN k t n s t' n' s' = 0 ∧ arC k t n s t' n' s' = 3 := by
  have e : arC k t n s t' n' s' = 3 := by unfold arC; rw [if_pos h]
  unfold arT arN; rw [e]; simp
theorem ar_zero {k t n : Int} {s : ByteArray} {t' n' : Int} {s' : ByteArray} (h : (decide (20 ≤ k ∧ k ≤ 24) && (cOk t n s && cOk t' n' s')) = true) (h2 : 23 ≤ k) (h3 : cNum t' n' s' = 0) :
    arT k t n s t' n' s' = 0 ∧ arN k t n s t' n' s' = 0 ∧ arC k t n s t' n' s' = 2 := by
  have e : arC k t n s t' n' s' = 2 := by unfold arC; rw [if_neg (by rw [h]; simp), if_pos ⟨h2, h3⟩]
  unfold arT arN; rw [e]; simp
theorem ar_over {k t n : Int} {s : ByteArray} {t' n' : Int} {s' : ByteArray} (h : (decide (20 ≤ k ∧ k ≤ 24) && (cOk t n s && cOk t' n' s')) = true) (h2 : ¬ (23 ≤ k ∧ cNum t' n' s' = 0)) (h3 : arB k (cNum t n s) (cNum t' n' s') = false) :
    arT k t n s t' n' s' = 0 ∧ arN k t n s t' n' s' = 0 ∧ arC k t n s t' n' s' = 1 := by
  have e : arC k t n s t' n' s' = 1 := by unfold arC; rw [if_neg (by rw [h]; simp), if_neg h2, if_neg (by rw [h3]; simp)]
  unfold arT arN; rw [e]; simp
theorem ar_good {k t n : Int} {s : ByteArray} {t' n' : Int} {s' : ByteArray} (h : (decide (20 ≤ k ∧ k ≤ 24) && (cOk t n s && cOk t' n' s')) = true) (h3 : arB k (cNum t n s) (cNum t' n' s') = true) :
    arT k t n s t' n' s' = 1 ∧ arN k t n s t' n' s' = arV k (cNum t n s) (cNum t' n' s') ∧ arC k t n s t' n' s' = 0 := by
  have h2 : ¬ (23 ≤ k ∧ cNum t' n' s' = 0) := fun ⟨a, b⟩ => by rw [b, arB_zero a] at h3; cases h3
  have e : arC k t n s t' n' s' = 0 := by unfold arC; rw [if_neg (by rw [h]; simp), if_neg h2, if_pos h3]
  unfold arT arN; rw [e]; simp

/-- What Arith answers. -/
def ArIs (k t n : Int) (s : ByteArray) (t' n' : Int) (s' : ByteArray) (w : World) (e : Ending) (w' : World) : Prop :=
  e = .returned (two (arT k t n s t' n' s') (arN k t n s t' n' s') ⟨#[]⟩ (arC k t n s t' n' s')) ∧ Below w.heap.size w w'
theorem below3 (w : World) (x y z : Obj) : Below w.heap.size w (((w.alloc x).alloc y).alloc z) :=
  (((Below.refl _ _).alloc (Nat.le_refl _) _).alloc (by simp) _).alloc (by simp; omega) _












end Go.Proofs.YthaedmldlenhgaaGreatDoor.Cell
