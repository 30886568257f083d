/-
  Lines and fields of a text: plain.
-/
import Derived.Test.YtofinndkbjcgbaaDoorReadPure
namespace Go.Proofs.YtofinndkbjcgbaaDoor.RecPure
open Go Go.RowKit Go.PlainAid
open Go.Proofs.YtofinndkbjcgbaaDoor.DecPure Go.Proofs.YtofinndkbjcgbaaDoor.ReadPure
set_option linter.unusedVariables false

/-- The lines that have ended among the first bytes, and where the next one begins. -/
def lnO (s : ByteArray) : Nat → List ByteArray
  | 0 => []
  | i + 1 => if bt s i = 10 then lnO s i ++ [s.extract (lnF s i) i] else lnO s i
where lnF (s : ByteArray) : Nat → Nat
  | 0 => 0
  | i + 1 => if bt s i = 10 then i + 1 else lnF s i
abbrev lnF := lnO.lnF
theorem lnF_le (s : ByteArray) : ∀ i, lnF s i ≤ i
  | 0 => Nat.le_refl _
  | i + 1 => by
    have := lnF_le s i
    show lnO.lnF s (i + 1) ≤ _
    rw [lnO.lnF]; split
    · omega
    · have h : lnO.lnF s i ≤ i := this
      omega
theorem lnO_len (s : ByteArray) : ∀ i, (lnO s i).length ≤ i
  | 0 => Nat.le_refl _
  | i + 1 => by
    have := lnO_len s i
    rw [lnO]; split
    · rw [List.length_append, List.length_singleton]; omega
    · omega
theorem lnO_yes {s : ByteArray} {i : Nat} (h : bt s i = 10) : lnO s (i + 1) = lnO s i ++ [s.extract (lnF s i) i] ∧ lnF s (i + 1) = i + 1 := by
  refine ⟨by rw [lnO, if_pos h], ?_⟩
  show lnO.lnF s (i + 1) = _
  rw [lnO.lnF, if_pos h]
theorem lnO_no {s : ByteArray} {i : Nat} (h : bt s i ≠ 10) : lnO s (i + 1) = lnO s i ∧ lnF s (i + 1) = lnF s i := by
  refine ⟨by rw [lnO, if_neg h], ?_⟩
  show lnO.lnF s (i + 1) = _
  rw [lnO.lnF, if_neg h]
def linesP (s : ByteArray) : List ByteArray :=
  if 3000 < s.size then [] else if lnF s s.size < s.size then lnO s s.size ++ [s.extract (lnF s s.size) s.size] else lnO s s.size
theorem linesP_len (s : ByteArray) : (linesP s).length ≤ 3001 := by
  unfold linesP
  have := lnO_len s s.size
  split
  · simp
  · split
    · rw [List.length_append, List.length_singleton]; omega
    · omega

/-- No white byte. -/
def nwB (b : Int) : Bool := !(spB b)
/-- The fields from a place on. -/
def fldF (s : ByteArray) : Nat → Nat → List ByteArray
  | 0, _ => []
  | m + 1, a => if endOf spB s a < s.size then s.extract (endOf spB s a) (endOf nwB s (endOf spB s a)) :: fldF s m (endOf nwB s (endOf spB s a)) else []
theorem fld_next {s : ByteArray} {a : Nat} (h : endOf spB s a < s.size) : a < endOf nwB s (endOf spB s a) ∧ endOf spB s a < endOf nwB s (endOf spB s a) := by
  have h1 := endOf_ge spB s a
  have h2 : nwB (bt s (endOf spB s a)) = true := by unfold nwB; rw [endOf_out h]; rfl
  have h3 := endOf_step h h2
  have h4 := endOf_ge nwB s (endOf spB s a + 1)
  omega
theorem fldF_more (s : ByteArray) : ∀ (m n a : Nat), s.size < a + m → s.size < a + n → fldF s m a = fldF s n a
  | 0, 0, _, _, _ => rfl
  | 0, n + 1, a, h, _ => by
    have hge := endOf_ge spB s a
    rw [fldF, fldF, if_neg (by omega)]
  | m + 1, 0, a, _, h => by
    have hge := endOf_ge spB s a
    rw [fldF, fldF, if_neg (by omega)]
  | m + 1, n + 1, a, h1, h2 => by
    rw [fldF, fldF]
    by_cases hb : endOf spB s a < s.size
    · have := fld_next hb
      rw [if_pos hb, if_pos hb, fldF_more s m n _ (by omega) (by omega)]
    · rw [if_neg hb, if_neg hb]
def fld (s : ByteArray) (a : Nat) : List ByteArray := fldF s (s.size + 1) a
theorem fld_yes {s : ByteArray} {a : Nat} (h : endOf spB s a < s.size) : fld s a = s.extract (endOf spB s a) (endOf nwB s (endOf spB s a)) :: fld s (endOf nwB s (endOf spB s a)) := by
  have := fld_next h
  have e : fld s a = fldF s (s.size + 2) a := fldF_more s _ _ a (by omega) (by omega)
  rw [e, fldF, if_pos h]
  rfl
theorem fld_no {s : ByteArray} {a : Nat} (h : ¬ endOf spB s a < s.size) : fld s a = [] := by
  unfold fld; rw [fldF, if_neg h]
theorem fldF_len (s : ByteArray) : ∀ (m a : Nat), (fldF s m a).length ≤ m
  | 0, _ => Nat.le_refl _
  | m + 1, a => by
    rw [fldF]; split
    · have := fldF_len s m (endOf nwB s (endOf spB s a)); simp; omega
    · simp
def fieldsP (s : ByteArray) : List ByteArray := if 500 < s.size then [] else (fld s 0).take 50
theorem fieldsP_len (s : ByteArray) : (fieldsP s).length ≤ 50 := by
  unfold fieldsP; split
  · simp
  · rw [List.length_take]; omega
end Go.Proofs.YtofinndkbjcgbaaDoor.RecPure
