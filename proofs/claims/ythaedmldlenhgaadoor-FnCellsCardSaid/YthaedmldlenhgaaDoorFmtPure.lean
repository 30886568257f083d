/-
  Plain facts on the text of a decimal: its numeral, the digits behind the point, their lengths, and how texts are joined.
-/
import Derived.Test.YthaedmldlenhgaaDoorTextPure
import Derived.Lib.ItoaMem
namespace Go.Proofs.YthaedmldlenhgaaDoor.TextPure
open Go Go.RowKit
open Go.Proofs.YthaedmldlenhgaaDoor.DecPure
set_option linter.unusedVariables false

def digB (u : Nat) : ByteArray := ⟨(Lib.decDigits u).toArray⟩
theorem join (a b : List UInt8) : (⟨a.toArray⟩ : ByteArray) ++ ⟨b.toArray⟩ = ⟨(a ++ b).toArray⟩ := by
  apply ByteArray.ext
  simp
theorem join_nil (s : ByteArray) : (⟨#[]⟩ : ByteArray) ++ s = s := by
  apply ByteArray.ext
  simp
theorem join_end (s : ByteArray) : s ++ strOfNums [] = s := by
  apply ByteArray.ext
  simp [strOfNums]
theorem join_nums (a b : List Int) : strOfNums a ++ strOfNums b = strOfNums (a ++ b) := by
  unfold strOfNums; rw [join, List.map_append]
theorem join_assoc (a b c : ByteArray) : a ++ b ++ c = a ++ (b ++ c) := ByteArray.append_assoc
theorem digB_one {i : Nat} (h : i < 10) : digB i = strOfNums [48 + (i : Int)] := by
  unfold digB strOfNums
  rw [Lib.decDigits_one h]
  have e : (48 + (i : Int)).toNat = 48 + i := by omega
  simp [e]
theorem digB_more {n : Nat} (h : 10 ≤ n) : digB (n / 10) ++ strOfNums [48 + (n : Int) % 10] = digB n := by
  unfold digB strOfNums
  rw [join, Lib.decDigits.eq_def n, dif_neg (by omega)]
  have e : (48 + (n : Int) % 10).toNat = 48 + n % 10 := by omega
  simp [e]
theorem digB_size {u : Nat} (h : u < 18446744073709551616) : (digB u).size ≤ 20 := by
  have e : (digB u).size = Lib.nDigits u := by unfold digB; rw [← Lib.decDigits_length]; simp [ByteArray.size]
  rw [e]
  by_cases h0 : u = 0
  · subst h0; rw [Lib.nDigits_small (by omega)]; omega
  · have := Lib.numDigits_eq u (by omega) h
    split at this <;> omega
theorem fracD_len : ∀ (k : Nat) (r : Int), (fracD k r).length ≤ k
  | 0, r => by simp [fracD]
  | k + 1, r => by
    rw [fracD]; split
    · simp
    · have := fracD_len k (r * 10 % 1000000); simp; omega
theorem fracL_size (n : Int) : (strOfNums (fracL n)).size ≤ 7 := by
  rw [strOfNums_size]; unfold fracL; split
  · simp
  · have := fracD_len 6 (absV n % 1000000); simp; omega
/-- The text of a decimal. -/
def textB (n : Int) : ByteArray := if n < 0 then ⟨#[45]⟩ ++ digB (absV n / 1000000).toNat ++ strOfNums (fracL n) else digB (absV n / 1000000).toNat ++ strOfNums (fracL n)
def headB (n : Int) : ByteArray := if n < 0 then ⟨#[45]⟩ ++ digB (absV n / 1000000).toNat else digB (absV n / 1000000).toNat
theorem textB_head (n : Int) : textB n = headB n ++ strOfNums (fracL n) := by unfold textB headB; split <;> rfl
/-- What DecText gives. -/
def dtB (n : Int) : ByteArray := if dOk n = true then textB n else ⟨#[]⟩

/-- The model's units: 100000, 10000 and so on; and what its rest is multiplied by. -/
def unT : Nat → Int
  | 0 => 100000
  | k + 1 => unT k / 10
def upT : Nat → Int
  | 0 => 1
  | k + 1 => upT k * 10
theorem unT_bd {k : Nat} (h : k < 6) : 1 ≤ unT k ∧ unT k ≤ 100000 := by
  have hc : k = 0 ∨ k = 1 ∨ k = 2 ∨ k = 3 ∨ k = 4 ∨ k = 5 := by omega
  rcases hc with rfl | rfl | rfl | rfl | rfl | rfl <;> simp [unT]
/-- A step of the model's printing, in the program's measure. -/
theorem step_unit {k : Nat} (h : k < 6) {q : Int} (h0 : 0 ≤ q) (h1 : q * upT k < 1000000) :
    q * upT k * 10 / 1000000 = q / unT k ∧ q * upT k * 10 % 1000000 = q % unT k * upT (k + 1) ∧ q % unT k * upT (k + 1) < 1000000 ∧ 0 ≤ q / unT k ∧ q / unT k ≤ 9 ∧ 0 ≤ q % unT k := by
  have hc : k = 0 ∨ k = 1 ∨ k = 2 ∨ k = 3 ∨ k = 4 ∨ k = 5 := by omega
  rcases hc with rfl | rfl | rfl | rfl | rfl | rfl <;> simp [unT, upT] at * <;> omega
theorem up_pos {k : Nat} : 1 ≤ upT k := by
  induction k with
  | zero => simp [upT]
  | succ k ih => simp only [upT]; omega
theorem up_zero {k : Nat} {q : Int} (h : 0 < q) : q * upT k ≠ 0 := by
  have := Int.mul_pos h (show 0 < upT k by have := up_pos (k := k); omega)
  omega
theorem head_size (n : Int) (h : dOk n = true) : (headB n).size ≤ 21 := by
  have ha := absV_bd h
  have hb := digB_size (u := (absV n / 1000000).toNat) (by omega)
  unfold headB; split
  · rw [ByteArray.size_append]
    have h1 : (⟨#[45]⟩ : ByteArray).size = 1 := rfl
    omega
  · omega
theorem up_six {q : Int} (h0 : 0 ≤ q) (h1 : q * upT 6 < 1000000) : q = 0 := by simp [upT] at h1; omega
end Go.Proofs.YthaedmldlenhgaaDoor.TextPure
