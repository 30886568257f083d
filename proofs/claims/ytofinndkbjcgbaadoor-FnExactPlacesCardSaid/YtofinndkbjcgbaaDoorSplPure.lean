/-
  A text cut at another one: plain.
-/
import Derived.Test.YtofinndkbjcgbaaDoorRecPure
namespace Go.Proofs.YtofinndkbjcgbaaDoor.RecPure
open Go Go.RowKit Go.PlainAid
open Go.Proofs.YtofinndkbjcgbaaDoor.DecPure Go.Proofs.YtofinndkbjcgbaaDoor.ReadPure
set_option linter.unusedVariables false

/-- Does t stand at place i of s? -/
def mtB (s t : ByteArray) (i : Nat) : Bool := (s.extract i (i + t.size)).toList == t.toList
/-- The parts from place i on, where the part at hand began at f. -/
def splF (s t : ByteArray) : Nat → Nat → Nat → List ByteArray
  | 0, i, f => [s.extract f s.size]
  | m + 1, i, f => if i + t.size ≤ s.size then (if mtB s t i = true then s.extract f i :: splF s t m (i + t.size) (i + t.size) else splF s t m (i + 1) f) else [s.extract f s.size]
theorem splF_more (s t : ByteArray) (ht : 1 ≤ t.size) : ∀ (m n i f : Nat), s.size < i + m → s.size < i + n → splF s t m i f = splF s t n i f
  | 0, 0, _, _, _, _ => rfl
  | 0, n + 1, i, f, h, _ => by rw [splF, splF, if_neg (by omega)]
  | m + 1, 0, i, f, _, h => by rw [splF, splF, if_neg (by omega)]
  | m + 1, n + 1, i, f, h1, h2 => by
    rw [splF, splF]
    split
    · split
      · rw [splF_more s t ht m n _ _ (by omega) (by omega)]
      · rw [splF_more s t ht m n _ _ (by omega) (by omega)]
    · rfl
def spl (s t : ByteArray) (i f : Nat) : List ByteArray := splF s t (s.size + 1) i f
theorem spl_yes {s t : ByteArray} (ht : 1 ≤ t.size) {i f : Nat} (h : i + t.size ≤ s.size) (hm : mtB s t i = true) : spl s t i f = s.extract f i :: spl s t (i + t.size) (i + t.size) := by
  have e : spl s t i f = splF s t (s.size + 2) i f := splF_more s t ht _ _ i f (by omega) (by omega)
  rw [e, splF, if_pos h, if_pos hm]
  rfl
theorem spl_no {s t : ByteArray} (ht : 1 ≤ t.size) {i f : Nat} (h : i + t.size ≤ s.size) (hm : mtB s t i = false) : spl s t i f = spl s t (i + 1) f := by
  have e : spl s t i f = splF s t (s.size + 2) i f := splF_more s t ht _ _ i f (by omega) (by omega)
  rw [e, splF, if_pos h, if_neg (by rw [hm]; simp)]
  rfl
theorem spl_end {s t : ByteArray} {i f : Nat} (h : ¬ i + t.size ≤ s.size) : spl s t i f = [s.extract f s.size] := by
  unfold spl; rw [splF, if_neg h]
/-- What SplitBy gives. -/
def splitP (s t : ByteArray) : List ByteArray :=
  if (t.toList == [32]) = true then fieldsP s
  else if 500 < s.size ∨ s.toList.isEmpty = true then []
  else if t.toList.isEmpty = true then [s]
  else (spl s t 0 0).take 50
theorem splitP_len (s t : ByteArray) : (splitP s t).length ≤ 50 := by
  unfold splitP
  split
  · exact fieldsP_len s
  · split
    · simp
    · split
      · simp
      · rw [List.length_take]; omega
theorem size_nil (s : ByteArray) : s.toList.isEmpty = decide (s.size = 0) := by
  rw [ByteArray.toList_eq, Bool.eq_iff_iff, List.isEmpty_iff_length_eq_zero]
  simp only [decide_eq_true_eq]
  rfl
end Go.Proofs.YtofinndkbjcgbaaDoor.RecPure
