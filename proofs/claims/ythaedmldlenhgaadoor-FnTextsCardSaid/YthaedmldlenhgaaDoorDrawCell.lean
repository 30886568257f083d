/-
  The model's functions that draw values and texts of chapter 7: they write into their own cursor alone.
-/
import Derived.Test.YthaedmldlenhgaaDoorDrawT
import Derived.Test.YthaedmldlenhgaaDoorCellArith
import Derived.Test.YthaedmldlenhgaaDoorDecText
import Derived.Deep.RegionWith
namespace Go.Proofs.YthaedmldlenhgaaDoor.Draw
open Go.ChangeShapes Go.WideShapes Go.ChangeAt Go.RowKit
open Go.PlainAid Go.Proofs.YthaedmldlenhgaaDoor.Dec
open Go.Proofs.YthaedmldlenhgaaDoor.DecPure Go.Proofs.YthaedmldlenhgaaDoor.ReadPure Go.Proofs.YthaedmldlenhgaaDoor.TextPure Go.Proofs.YthaedmldlenhgaaDoor.CellPure Go.Proofs.YthaedmldlenhgaaDoor.Cell
set_option linter.unusedVariables false

theorem cb_only {w w' : World} {g h : Nat} {a b c : Value} (k : CB w h a b c) (ho : Only w w' g) (hne : h ≠ g) : CB w' h a b c := (ho.block h k.lt (by simpa using hne)).trans k
/-- A drawn value, and the cursor again. -/
def CellDrawn (w : World) (B g : Nat) (A : Option Addr) (n cap : Nat) (Z : Nat → Int) (e : Ending) (w' : World) : Prop := ∃ (t k : Int) (s : ByteArray), e = .returned (cel t k s) ∧ s.size ≤ 600 ∧ Cur w' B g A n cap Z ∧ Only w w' g
theorem CellDrawn.mk {w w' : World} {B g : Nat} {A : Option Addr} {n cap : Nat} {Z : Nat → Int} (t k : Int) (s : ByteArray) (hs : s.size ≤ 600) (hc : Cur w' B g A n cap Z) (ho : Only w w' g) : CellDrawn w B g A n cap Z (.returned (cel t k s)) w' := ⟨t, k, s, rfl, hs, hc, ho⟩
theorem Cur.set {w : World} {B g h : Nat} {A : Option Addr} {n cap : Nat} {Z : Nat → Int} (hc : Cur w B g A n cap Z) (hg : g < h) (i : Nat) (u : Value) : Cur (w.setCell ⟨h, i, none⟩ u) B g A n cap Z :=
  hc.same fun x hx => by simp only [World.setCell, Array.getElem?_modify]; rw [if_neg (by omega)]
theorem Only.setNew {w w' : World} {g h : Nat} (ho : Only w w' g) (hh : w.heap.size ≤ h) (i : Nat) (u : Value) : Only w (w'.setCell ⟨h, i, none⟩ u) g :=
  ⟨ho.os, ho.tape, ho.output, by simpa [World.setCell] using ho.size, fun j hj hne => (Below.heap_setCell w' ⟨h, i, none⟩ u j (by show j ≠ h; omega)).trans (ho.block j hj hne)⟩
theorem Cur.set3 {w : World} {B g h : Nat} {A : Option Addr} {n cap : Nat} {Z : Nat → Int} (hc : Cur w B g A n cap Z) (hg : g < h) (x y z : Value) : Cur (((w.setCell ⟨h, 0, none⟩ x).setCell ⟨h, 1, none⟩ y).setCell ⟨h, 2, none⟩ z) B g A n cap Z :=
  ((hc.set hg 0 x).set hg 1 y).set hg 2 z
theorem Only.set3 {w w' : World} {g h : Nat} (ho : Only w w' g) (hh : w.heap.size ≤ h) (x y z : Value) : Only w (((w'.setCell ⟨h, 0, none⟩ x).setCell ⟨h, 1, none⟩ y).setCell ⟨h, 2, none⟩ z) g :=
  ((ho.setNew hh 0 x).setNew hh 1 y).setNew hh 2 z

def numsT : List ByteArray := [⟨#[51]⟩, ⟨#[32, 51, 32]⟩, ⟨#[45, 49, 46, 53]⟩, ⟨#[120]⟩, ⟨#[]⟩, ⟨#[51, 120]⟩, ⟨#[49, 48]⟩]
def strsT : List ByteArray := [⟨#[]⟩, ⟨#[51]⟩, ⟨#[97]⟩, ⟨#[97, 98]⟩, ⟨#[49, 48]⟩, ⟨#[32, 50]⟩]
theorem numsT_small : ∀ x ∈ numsT, x.size ≤ 11 := by decide +kernel
theorem strsT_small : ∀ x ∈ strsT, x.size ≤ 11 := by decide +kernel


theorem cb_other {w : World} {g h i : Nat} {a b c : Value} (k : CB w g a b c) (hne : h ≠ g) (x : Value) : CB (w.setCell ⟨h, i, none⟩ x) g a b c := by
  have h' : w.heap[g]? = some (.cells #[a, b, c] 25 (0, 0)) := k
  unfold CB
  simp [World.setCell, Array.getElem?_modify, h', hne]


/-- Two drawn values. -/
def TwoCells (w : World) (e : Ending) (w' : World) : Prop := ∃ (t k : Int) (s : ByteArray) (t' k' : Int) (s' : ByteArray), e = .returned (.tuple #[cel t k s, cel t' k' s']) ∧ s.size ≤ 600 ∧ s'.size ≤ 600 ∧ Below w.heap.size w w'
theorem cells_results2 {fn : Func} {p u : Tmp} (h : fn.results = #[.cell p 25, .cell u 25]) {tmps : Array Value} {w : World} {g g' : Nat} {a b c a' b' c' : Value} (T : CB w g a b c) (T' : CB w g' a' b' c')
    (hp : tmps.getD p undef = .pointer (some ⟨g, 0, none⟩)) (hu : tmps.getD u undef = .pointer (some ⟨g', 0, none⟩)) : (results fn tmps).run Tryd.prog w = .ok (.tuple #[.agg #[a, b, c], .agg #[a', b', c']]) w := by
  obtain ⟨r0, r1, r2⟩ := T.cells
  obtain ⟨q0, q1, q2⟩ := T'.cells
  rw [Array.getD_eq_getD_getElem?] at hp hu
  unfold results
  rw [h]
  simp [go_sem, hp, hu, r0, r1, r2, q0, q1, q2]


end Go.Proofs.YthaedmldlenhgaaDoor.Draw
