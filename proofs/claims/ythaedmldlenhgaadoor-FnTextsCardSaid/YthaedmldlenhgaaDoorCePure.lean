/-
  Values in lists: plain.
-/
import Derived.Test.YthaedmldlenhgaaDoorCellPure
namespace Go.Proofs.YthaedmldlenhgaaDoor.Strs
open Go Go.RowKit Go.PlainAid
open Go.Proofs.YthaedmldlenhgaaDoor.DecPure Go.Proofs.YthaedmldlenhgaaDoor.ReadPure Go.Proofs.YthaedmldlenhgaaDoor.TextPure Go.Proofs.YthaedmldlenhgaaDoor.CellPure
set_option linter.unusedVariables false

/-- A value of a list. -/
structure Ce where
  t : Int
  n : Int
  s : ByteArray
def nthC (l : List Ce) (i : Nat) : Ce := l.getD i ⟨0, 0, ⟨#[]⟩⟩
theorem nthC_drop (l : List Ce) (k : Nat) : nthC (l.drop k) 0 = nthC l k := by simp [nthC, List.getD]
def okL (l : List Ce) : Bool := l.all fun c => cOk c.t c.n c.s
theorem okL_at {l : List Ce} (h : ∀ j, j < l.length → cOk (nthC l j).t (nthC l j).n (nthC l j).s = true) : okL l = true := by
  unfold okL
  rw [List.all_eq_true]
  intro c hc
  obtain ⟨i, hi, rfl⟩ := List.getElem_of_mem hc
  have := h i hi
  simpa [nthC, List.getD, hi] using this
theorem okL_no {l : List Ce} {k : Nat} (hk : k < l.length) (h : cOk (nthC l k).t (nthC l k).n (nthC l k).s = false) : okL l = false := by
  unfold okL
  rw [Bool.eq_false_iff]
  intro q
  rw [List.all_eq_true] at q
  have := q (l[k]) (List.getElem_mem hk)
  simp [nthC, List.getD, hk] at h
  rw [h] at this
  cases this
theorem okL_all {l : List Ce} (h : okL l = true) {k : Nat} (hk : k < l.length) : cOk (nthC l k).t (nthC l k).n (nthC l k).s = true := by
  cases hc : cOk (nthC l k).t (nthC l k).n (nthC l k).s with
  | true => rfl
  | false => rw [okL_no hk hc] at h; cases h
end Go.Proofs.YthaedmldlenhgaaDoor.Strs
