/-
  What follows a % in a format, and values in lists: plain.
-/
import Derived.Test.YtofinndkbjcgbaaCellPure
namespace Go.Proofs.Ytofinndkbjcgbaa.Strs
open Go Go.RowKit Go.PlainAid
open Go.Proofs.Ytofinndkbjcgbaa.DecPure Go.Proofs.Ytofinndkbjcgbaa.ReadPure Go.Proofs.Ytofinndkbjcgbaa.TextPure Go.Proofs.Ytofinndkbjcgbaa.CellPure
set_option linter.unusedVariables false

/-- So many digits at most, from place k on. -/
def plD (f : ByteArray) : Nat → Nat → Int → Nat × Int
  | 0, k, v => (k, v)
  | m + 1, k, v => if k < f.size ∧ dgB (bt f k) = true then plD f m (k + 1) (10 * v + (bt f k - 48)) else (k, v)
theorem plD_on {f : ByteArray} {m k : Nat} {v : Int} (h : k < f.size) (hd : dgB (bt f k) = true) : plD f (m + 1) k v = plD f m (k + 1) (10 * v + (bt f k - 48)) := by rw [plD, if_pos ⟨h, hd⟩]
theorem plD_stop {f : ByteArray} {m k : Nat} {v : Int} (h : m = 0 ∨ ¬ k < f.size ∨ dgB (bt f k) = false) : plD f m k v = (k, v) := by
  cases m with
  | zero => rfl
  | succ m =>
    rw [plD, if_neg]
    rintro ⟨h1, h2⟩
    rcases h with h | h | h
    · omega
    · exact h h1
    · rw [h2] at h; cases h
structure Plc where
  kind : Int
  wide : Int
  left : Bool
  stop : Int
def Plc.val (p : Plc) : Value := .agg #[.int .u8 p.kind, .int .i64 p.wide, .bool p.left, .int .i64 p.stop]
def plE (f : ByteArray) (r : Nat × Int) (l : Bool) : Plc := if r.1 < f.size ∧ (bt f r.1 = 100 ∨ bt f r.1 = 115) then ⟨bt f r.1, r.2, l, r.1 + 1⟩ else ⟨0, r.2, l, 0⟩
def plc (f : ByteArray) (a : Nat) : Plc :=
  if a + 1 < f.size ∧ bt f (a + 1) = 37 then ⟨37, 0, false, a + 1 + 1⟩
  else if a + 1 < f.size ∧ bt f (a + 1) = 45 then plE f (plD f 2 (a + 2) 0) true else plE f (plD f 2 (a + 1) 0) false

/-- A value of a list. -/
structure Ce where
  t : Int
  n : Int
  s : ByteArray
def nthC (l : List Ce) (i : Nat) : Ce := l.getD i ⟨0, 0, ⟨#[]⟩⟩
theorem nthC_drop (l : List Ce) (k : Nat) : nthC (l.drop k) 0 = nthC l k := by simp [nthC, List.getD]
def okL (l : List Ce) : Bool := l.all fun c => cOk c.t c.n c.s
theorem okL_at {l : List Ce} (h : ∀ j, j < l.length → cOk (nthC l j).t (nthC l j).n (nthC l j).s = true) : okL l = true := by
  unfold okL
  rw [List.all_eq_true]
  intro c hc
  obtain ⟨i, hi, rfl⟩ := List.getElem_of_mem hc
  have := h i hi
  simpa [nthC, List.getD, hi] using this
theorem okL_no {l : List Ce} {k : Nat} (hk : k < l.length) (h : cOk (nthC l k).t (nthC l k).n (nthC l k).s = false) : okL l = false := by
  unfold okL
  rw [Bool.eq_false_iff]
  intro q
  rw [List.all_eq_true] at q
  have := q (l[k]) (List.getElem_mem hk)
  simp [nthC, List.getD, hk] at h
  rw [h] at this
  cases this
theorem okL_all {l : List Ce} (h : okL l = true) {k : Nat} (hk : k < l.length) : cOk (nthC l k).t (nthC l k).n (nthC l k).s = true := by
  cases hc : cOk (nthC l k).t (nthC l k).n (nthC l k).s with
  | true => rfl
  | false => rw [okL_no hk hc] at h; cases h
end Go.Proofs.Ytofinndkbjcgbaa.Strs
