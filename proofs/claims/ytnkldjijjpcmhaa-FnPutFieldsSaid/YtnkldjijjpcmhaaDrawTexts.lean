/-
  The model's functions that draw the texts of chapter 7.
-/
import Derived.Test.YtnkldjijjpcmhaaDrawT
namespace Go.Proofs.Ytnkldjijjpcmhaa.Draw
open Go.ChangeShapes Go.WideShapes Go.ChangeAt Go.RowKit
open Go.PlainAid Go.Proofs.Ytnkldjijjpcmhaa.Dec
open Go.Proofs.Ytnkldjijjpcmhaa.DecPure Go.Proofs.Ytnkldjijjpcmhaa.ReadPure Go.Proofs.Ytnkldjijjpcmhaa.Cell
set_option linter.unusedVariables false

def TxtTwo (w : World) (e : Ending) (w' : World) : Prop := ∃ s t : ByteArray, e = .returned (.tuple #[.string s, .string t]) ∧ s.size ≤ 20 ∧ t.size ≤ 20 ∧ Below w.heap.size w w'
def TxtOne (m : Nat) (w : World) (e : Ending) (w' : World) : Prop := ∃ s : ByteArray, e = .returned (.string s) ∧ s.size ≤ m ∧ Below w.heap.size w w'
def TxtNums (w : World) (e : Ending) (w' : World) : Prop := ∃ (s : ByteArray) (f n : Int), e = .returned (.tuple #[.string s, .int .i64 f, .int .i64 n]) ∧ s.size ≤ 20 ∧ I64 f ∧ I64 n ∧ Below w.heap.size w w'

theorem text_int (w : World) (B g : Nat) (A : Option Addr) (n cap : Nat) (Z : Nat → Int) (hc : Cur w B g A n cap Z) (x : Int) (m : Nat) (hx : 0 ≤ x ∧ x < m) (hm : m ≤ 1000) (t : ByteArray) (h1 : 1 ≤ t.size) (h2 : t.size ≤ 1000000) :
    Calls Try.prog 35 #[.pointer (some ⟨g, 0, none⟩), .int .i64 x, .string t] w (Txt m w B g A n cap Z) := by
  obtain ⟨q, rfl⟩ := Int.eq_ofNat_of_zero_le hx.1
  exact (text_of w B g A n cap Z hc q (by omega) t h1 h2).mono fun e w' ⟨s, he, hs, hc', ho⟩ => ⟨s, he, by omega, hc', ho⟩




end Go.Proofs.Ytnkldjijjpcmhaa.Draw
