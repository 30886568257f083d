/-
  Plain facts on the text of a decimal: its numeral, the digits behind the point, their lengths, and how texts are joined.
  Values, in plain numbers and texts: which are valid, what is taken from them, how they are compared and reckoned with.
  Values in lists: plain.
  What a format consists of, and what it gives: plain.
  Lines and fields of a text: plain.
  A text cut at another one: plain.
  Parts of a text, and where one text stands in another one: plain facts.
  A text's words found byte by byte; parts cut off at a text; lines out of them: plain.
  How the program takes a format to pieces: plain.
-/
import Derived.Test.YthaedmldlenhgaaGreatDoorTextPure
import Derived.Lib.ItoaMem
import Derived.Test.YthaedmldlenhgaaGreatDoorReadPure
import Derived.Test.YthaedmldlenhgaaGreatDoorPlcPure
import Derived.Lib.Index
import Derived.Lib.Strings
import Derived.Lib.IndexMore
import Derived.Laws.RangeAny
import Derived.Lib.IndexBytes
namespace Go.Proofs.YthaedmldlenhgaaGreatDoor.TextPure
open Go Go.RowKit
open Go.Proofs.YthaedmldlenhgaaGreatDoor.DecPure
set_option linter.unusedVariables false

def digB (u : Nat) : ByteArray := ⟨(Lib.decDigits u).toArray⟩
theorem join (a b : List UInt8) : (⟨a.toArray⟩ : ByteArray) ++ ⟨b.toArray⟩ = ⟨(a ++ b).toArray⟩ := by
  apply ByteArray.ext
  simp
theorem join_nil (s : ByteArray) : (⟨#[]⟩ : ByteArray) ++ s = s := by
  apply ByteArray.ext
  simp
theorem join_end (s : ByteArray) : s ++ strOfNums [] = s := by
  apply ByteArray.ext
  simp [strOfNums]
theorem join_nums (a b : List Int) : strOfNums a ++ strOfNums b = strOfNums (a ++ b) := by
  unfold strOfNums; rw [join, List.map_append]
theorem join_assoc (a b c : ByteArray) : a ++ b ++ c = a ++ (b ++ c) := ByteArray.append_assoc
theorem digB_one {i : Nat} (h : i < 10) : digB i = strOfNums [48 + (i : Int)] := by
  unfold digB strOfNums
  rw [Lib.decDigits_one h]
  have e : (48 + (i : Int)).toNat = 48 + i := by omega
  simp [e]
theorem digB_more {n : Nat} (h : 10 ≤ n) : digB (n / 10) ++ strOfNums [48 + (n : Int) % 10] = digB n := by
  unfold digB strOfNums
  rw [join, Lib.decDigits.eq_def n, dif_neg (by omega)]
  have e : (48 + (n : Int) % 10).toNat = 48 + n % 10 := by omega
  simp [e]
theorem digB_size {u : Nat} (h : u < 18446744073709551616) : (digB u).size ≤ 20 := by
  have e : (digB u).size = Lib.nDigits u := by unfold digB; rw [← Lib.decDigits_length]; simp [ByteArray.size]
  rw [e]
  by_cases h0 : u = 0
  · subst h0; rw [Lib.nDigits_small (by omega)]; omega
  · have := Lib.numDigits_eq u (by omega) h
    split at this <;> omega
theorem fracD_len : ∀ (k : Nat) (r : Int), (fracD k r).length ≤ k
  | 0, r => by simp [fracD]
  | k + 1, r => by
    rw [fracD]; split
    · simp
    · have := fracD_len k (r * 10 % 1000000); simp; omega
theorem fracL_size (n : Int) : (strOfNums (fracL n)).size ≤ 7 := by
  rw [strOfNums_size]; unfold fracL; split
  · simp
  · have := fracD_len 6 (absV n % 1000000); simp; omega
/-- The text of a decimal. -/
def textB (n : Int) : ByteArray := if n < 0 then ⟨#[45]⟩ ++ digB (absV n / 1000000).toNat ++ strOfNums (fracL n) else digB (absV n / 1000000).toNat ++ strOfNums (fracL n)
def headB (n : Int) : ByteArray := if n < 0 then ⟨#[45]⟩ ++ digB (absV n / 1000000).toNat else digB (absV n / 1000000).toNat
theorem textB_head (n : Int) : textB n = headB n ++ strOfNums (fracL n) := by unfold textB headB; split <;> rfl
/-- What DecText gives. -/
def dtB (n : Int) : ByteArray := if dOk n = true then textB n else ⟨#[]⟩

/-- The model's units: 100000, 10000 and so on; and what its rest is multiplied by. -/
def unT : Nat → Int
  | 0 => 100000
  | k + 1 => unT k / 10
def upT : Nat → Int
  | 0 => 1
  | k + 1 => upT k * 10
theorem unT_bd {k : Nat} (h : k < 6) : 1 ≤ unT k ∧ unT k ≤ 100000 := by
  have hc : k = 0 ∨ k = 1 ∨ k = 2 ∨ k = 3 ∨ k = 4 ∨ k = 5 := by omega
  rcases hc with rfl | rfl | rfl | rfl | rfl | rfl <;> simp [unT]
/-- A step of the model's printing, in the program's measure. -/
theorem step_unit {k : Nat} (h : k < 6) {q : Int} (h0 : 0 ≤ q) (h1 : q * upT k < 1000000) :
    q * upT k * 10 / 1000000 = q / unT k ∧ q * upT k * 10 % 1000000 = q % unT k * upT (k + 1) ∧ q % unT k * upT (k + 1) < 1000000 ∧ 0 ≤ q / unT k ∧ q / unT k ≤ 9 ∧ 0 ≤ q % unT k := by
  have hc : k = 0 ∨ k = 1 ∨ k = 2 ∨ k = 3 ∨ k = 4 ∨ k = 5 := by omega
  rcases hc with rfl | rfl | rfl | rfl | rfl | rfl <;> simp [unT, upT] at * <;> omega
theorem up_pos {k : Nat} : 1 ≤ upT k := by
  induction k with
  | zero => simp [upT]
  | succ k ih => simp only [upT]; omega
theorem up_zero {k : Nat} {q : Int} (h : 0 < q) : q * upT k ≠ 0 := by
  have := Int.mul_pos h (show 0 < upT k by have := up_pos (k := k); omega)
  omega
theorem head_size (n : Int) (h : dOk n = true) : (headB n).size ≤ 21 := by
  have ha := absV_bd h
  have hb := digB_size (u := (absV n / 1000000).toNat) (by omega)
  unfold headB; split
  · rw [ByteArray.size_append]
    have h1 : (⟨#[45]⟩ : ByteArray).size = 1 := rfl
    omega
  · omega
theorem up_six {q : Int} (h0 : 0 ≤ q) (h1 : q * upT 6 < 1000000) : q = 0 := by simp [upT] at h1; omega
end Go.Proofs.YthaedmldlenhgaaGreatDoor.TextPure

namespace Go.Proofs.YthaedmldlenhgaaGreatDoor.CellPure
open Go Go.RowKit
open Go.Proofs.YthaedmldlenhgaaGreatDoor.DecPure Go.Proofs.YthaedmldlenhgaaGreatDoor.ReadPure Go.Proofs.YthaedmldlenhgaaGreatDoor.TextPure
set_option linter.unusedVariables false

def nilB (s : ByteArray) : Bool := s.toList.isEmpty
theorem nilB_size (s : ByteArray) : nilB s = decide (s.size = 0) := by
  unfold nilB
  rw [ByteArray.toList_eq, Bool.eq_iff_iff, List.isEmpty_iff_length_eq_zero]
  simp only [decide_eq_true_eq]
  rfl
theorem nilB_yes {s : ByteArray} (h : nilB s = true) : s = ⟨#[]⟩ := by
  rw [nilB_size] at h
  have h0 : s.size = 0 := by simpa using h
  cases s with | mk d => cases d with | mk l => cases l with
    | nil => rfl
    | cons a x => simp [ByteArray.size] at h0
theorem nilB_no {s : ByteArray} (h : nilB s = false) : s ≠ ⟨#[]⟩ := by
  rintro rfl
  rw [nilB_size] at h
  exact absurd h (by decide)

/-- Is it a value? -/
def cOk (t n : Int) (s : ByteArray) : Bool :=
  decide (s.size ≤ 500) && (if t = 0 then nilB s && (n == 0) else if t = 1 then nilB s && dOk n else if t = 2 then n == 0 else if t = 3 then looksB s && (n == rdN s) else false)
def numOf (t n : Int) (s : ByteArray) : Int := if t = 2 then rdN s else n
theorem numOf_2 {n : Int} {s : ByteArray} : numOf 2 n s = rdN s := if_pos rfl
theorem numOf_n {t n : Int} {s : ByteArray} (h : t ≠ 2) : numOf t n s = n := if_neg h
def cNum (t n : Int) (s : ByteArray) : Int := if cOk t n s = true then numOf t n s else 0
def cTxt (t n : Int) (s : ByteArray) : ByteArray := if t = 1 then dtB n else s
def cStr (t n : Int) (s : ByteArray) : ByteArray := if cOk t n s = true then cTxt t n s else ⟨#[]⟩
def cTru (t n : Int) (s : ByteArray) : Bool := if cOk t n s = true then (if t = 2 then !(nilB s) else !(n == 0)) else false

theorem cNum_yes {t n : Int} {s : ByteArray} (h : cOk t n s = true) : cNum t n s = numOf t n s := if_pos h
theorem cNum_no {t n : Int} {s : ByteArray} (h : cOk t n s = false) : cNum t n s = 0 := by unfold cNum; rw [h, if_neg (by simp)]
theorem cTru_2 {n : Int} {s : ByteArray} (h : cOk 2 n s = true) : cTru 2 n s = !(nilB s) := by unfold cTru; rw [if_pos h, if_pos rfl]
theorem cTru_n {t n : Int} {s : ByteArray} (g : t ≠ 2) (h : cOk t n s = true) : cTru t n s = !(n == 0) := by unfold cTru; rw [if_pos h, if_neg g]
theorem cTru_no {t n : Int} {s : ByteArray} (h : cOk t n s = false) : cTru t n s = false := by unfold cTru; rw [h, if_neg (by simp)]
theorem cOk_big {t n : Int} {s : ByteArray} (h : 500 < s.size) : cOk t n s = false := by
  unfold cOk; rw [decide_eq_false (by omega), Bool.false_and]
theorem cOk_0 {n : Int} {s : ByteArray} (h : s.size ≤ 500) : cOk 0 n s = (nilB s && (n == 0)) := by
  unfold cOk; rw [decide_eq_true h, Bool.true_and, if_pos rfl]
theorem cOk_1 {n : Int} {s : ByteArray} (h : s.size ≤ 500) : cOk 1 n s = (nilB s && dOk n) := by
  unfold cOk; rw [decide_eq_true h, Bool.true_and, if_neg (by omega), if_pos rfl]
theorem cOk_2 {n : Int} {s : ByteArray} (h : s.size ≤ 500) : cOk 2 n s = (n == 0) := by
  unfold cOk; rw [decide_eq_true h, Bool.true_and, if_neg (by omega), if_neg (by omega), if_pos rfl]
theorem cOk_3 {n : Int} {s : ByteArray} (h : s.size ≤ 500) : cOk 3 n s = (looksB s && (n == rdN s)) := by
  unfold cOk; rw [decide_eq_true h, Bool.true_and, if_neg (by omega), if_neg (by omega), if_neg (by omega), if_pos rfl]
theorem cOk_no {t n : Int} {s : ByteArray} (h0 : t ≠ 0) (h1 : t ≠ 1) (h2 : t ≠ 2) (h3 : t ≠ 3) : cOk t n s = false := by
  unfold cOk; rw [if_neg h0, if_neg h1, if_neg h2, if_neg h3, Bool.and_false]
theorem cOk_size {t n : Int} {s : ByteArray} (h : cOk t n s = true) : s.size ≤ 500 := by
  rcases Nat.lt_or_ge 500 s.size with g | g
  · rw [cOk_big g] at h; cases h
  · exact g

/-- The value of a text from the input. -/
def fT (s : ByteArray) : Int := if 500 < s.size then 0 else if looksB s = true then 3 else 2
def fN (s : ByteArray) : Int := if 500 < s.size then 0 else if looksB s = true then rdN s else 0
def fS (s : ByteArray) : ByteArray := if 500 < s.size then ⟨#[]⟩ else s
theorem f_big {s : ByteArray} (h : 500 < s.size) : fT s = 0 ∧ fN s = 0 ∧ fS s = ⟨#[]⟩ := by simp [fT, fN, fS, h]
theorem f_num {s : ByteArray} (h : s.size ≤ 500) (g : looksB s = true) : fT s = 3 ∧ fN s = rdN s ∧ fS s = s := by
  have : ¬ 500 < s.size := by omega
  simp [fT, fN, fS, this, g]
theorem f_str {s : ByteArray} (h : s.size ≤ 500) (g : looksB s = false) : fT s = 2 ∧ fN s = 0 ∧ fS s = s := by
  have : ¬ 500 < s.size := by omega
  simp [fT, fN, fS, this, g]
theorem fS_size (s : ByteArray) : (fS s).size ≤ 500 := by
  unfold fS; split
  · decide
  · omega

/-- The valid value with these parts, if there is one. -/
def oT (t n : Int) (s : ByteArray) : Int := if t = 1 ∧ dOk n = true then 1 else if t = 2 ∧ s.size ≤ 500 then 2 else if t = 3 then fT s else 0
def oN (t n : Int) (s : ByteArray) : Int := if t = 1 ∧ dOk n = true then n else if t = 3 then fN s else 0
def oS (t n : Int) (s : ByteArray) : ByteArray := if t = 2 ∧ s.size ≤ 500 then s else if t = 3 then fS s else ⟨#[]⟩
theorem o_1 {n : Int} {s : ByteArray} (h : dOk n = true) : oT 1 n s = 1 ∧ oN 1 n s = n ∧ oS 1 n s = ⟨#[]⟩ := by simp [oT, oN, oS, h]
theorem o_2 {n : Int} {s : ByteArray} (h : s.size ≤ 500) : oT 2 n s = 2 ∧ oN 2 n s = 0 ∧ oS 2 n s = s := by simp [oT, oN, oS, h]
theorem o_3 {n : Int} {s : ByteArray} : oT 3 n s = fT s ∧ oN 3 n s = fN s ∧ oS 3 n s = fS s := by simp [oT, oN, oS]
theorem o_no {t n : Int} {s : ByteArray} (h1 : t = 1 → dOk n = false) (h2 : t = 2 → 500 < s.size) (h3 : t ≠ 3) : oT t n s = 0 ∧ oN t n s = 0 ∧ oS t n s = ⟨#[]⟩ := by
  have e1 : ¬ (t = 1 ∧ dOk n = true) := fun ⟨a, b⟩ => by rw [h1 a] at b; cases b
  have e2 : ¬ (t = 2 ∧ s.size ≤ 500) := fun ⟨a, b⟩ => by have := h2 a; omega
  simp only [oT, oN, oS, if_neg e1, if_neg e2, if_neg h3, and_self]
/-- A value is valid just where it is the one that its parts give. -/
theorem o_same (t n : Int) (s : ByteArray) : decide (t = oT t n s ∧ n = oN t n s ∧ s = oS t n s) = cOk t n s := by
  by_cases hz : 500 < s.size
  · rw [cOk_big hz]
    refine decide_eq_false fun ⟨h1, h2, h3⟩ => ?_
    have : (oS t n s).size ≤ 500 := by
      unfold oS; split
      · rename_i h; exact h.2
      · split
        · exact fS_size s
        · decide
    rw [← h3] at this
    omega
  have hz' : s.size ≤ 500 := by omega
  have hnil : (s = ⟨#[]⟩) ↔ nilB s = true := ⟨fun h => by subst h; rw [nilB_size]; decide, nilB_yes⟩
  by_cases h1 : t = 1
  · subst h1
    cases hd : dOk n with
    | true =>
      obtain ⟨e1, e2, e3⟩ := o_1 (s := s) hd
      rw [cOk_1 hz', e1, e2, e3, hd, Bool.and_true, Bool.eq_iff_iff]
      simp only [decide_eq_true_eq, true_and]
      exact hnil
    | false =>
      obtain ⟨e1, e2, e3⟩ := o_no (t := 1) (s := s) (fun _ => hd) (fun h => by omega) (by omega)
      rw [cOk_1 hz', hd, Bool.and_false, e1]
      exact decide_eq_false fun h => by omega
  by_cases h2 : t = 2
  · subst h2
    obtain ⟨e1, e2, e3⟩ := o_2 (n := n) hz'
    rw [cOk_2 hz', e1, e2, e3, Bool.eq_iff_iff]
    simp
  by_cases h3 : t = 3
  · subst h3
    obtain ⟨e1, e2, e3⟩ := o_3 (n := n) (s := s)
    rw [cOk_3 hz', e1, e2, e3]
    cases hl : looksB s with
    | true =>
      obtain ⟨f1, f2, f3⟩ := f_num hz' hl
      rw [f1, f2, f3, Bool.true_and, Bool.eq_iff_iff]
      simp
    | false =>
      obtain ⟨f1, f2, f3⟩ := f_str hz' hl
      rw [f1, Bool.false_and]
      exact decide_eq_false fun h => by omega
  obtain ⟨e1, e2, e3⟩ := o_no (t := t) (n := n) (s := s) (fun h => absurd h h1) (fun h => absurd h h2) h3
  by_cases h0 : t = 0
  · subst h0
    rw [cOk_0 hz', e1, e2, e3, Bool.eq_iff_iff]
    simp only [decide_eq_true_eq, true_and, Bool.and_eq_true, beq_iff_eq]
    exact ⟨fun ⟨a, b⟩ => ⟨hnil.1 b, a⟩, fun ⟨a, b⟩ => ⟨b, hnil.2 a⟩⟩
  · rw [cOk_no h0 h1 h2 h3, e1]
    exact decide_eq_false fun h => h0 h.1

/-- How two texts are compared. -/
def lsB (a b : ByteArray) : Bool := Op.bytesLess a.toList b.toList
def sameB (a b : ByteArray) : Bool := a.toList == b.toList
def cmpS (a b : ByteArray) : Int := if sameB a b = true then 0 else if lsB a b = true then -1 else 1
theorem bl_self : ∀ l : List UInt8, Op.bytesLess l l = false
  | [] => rfl
  | a :: x => by
    rw [Op.bytesLess, bl_self x]
    simp
theorem bl_total : ∀ x y : List UInt8, x ≠ y → Op.bytesLess x y = !(Op.bytesLess y x)
  | [], [], h => absurd rfl h
  | [], _ :: _, _ => rfl
  | _ :: _, [], _ => rfl
  | a :: x, b :: y, h => by
    rw [Op.bytesLess, Op.bytesLess]
    by_cases e : a = b
    · subst e
      have := bl_total x y (fun g => h (by rw [g]))
      rw [this]; simp
    · have e1 : (a == b) = false := by simpa using e
      have e2 : (b == a) = false := by simpa using fun g => e g.symm
      rw [e1, e2]
      simp only [Bool.false_and, Bool.or_false]
      by_cases g : a < b
      · have g2 : ¬ b < a := UInt8.lt_asymm g
        simp [g, g2]
      · have g2 : b < a := by
          rcases UInt8.lt_or_lt_of_ne e with q | q
          · exact absurd q g
          · exact q
        simp [g, g2]
theorem sameB_iff {a b : ByteArray} : sameB a b = true ↔ a = b := by
  unfold sameB
  rw [beq_iff_eq, ByteArray.toList_eq, ByteArray.toList_eq]
  exact ⟨fun h => by cases a; cases b; simp at h; rw [h], fun h => by rw [h]⟩
theorem sameB_comm (a b : ByteArray) : sameB a b = sameB b a := by
  rw [Bool.eq_iff_iff, sameB_iff, sameB_iff]; exact ⟨Eq.symm, Eq.symm⟩
theorem lsB_same {a b : ByteArray} (h : sameB a b = true) : lsB a b = false := by
  rw [sameB_iff] at h; subst h; exact bl_self _
theorem lsB_flip {a b : ByteArray} (h : sameB a b = false) : lsB a b = !(lsB b a) := by
  unfold lsB
  refine bl_total _ _ fun g => ?_
  unfold sameB at h
  rw [g, BEq.rfl] at h
  cases h
theorem cmpS_flip (a b : ByteArray) : cmpS a b = -cmpS b a := by
  unfold cmpS
  rw [sameB_comm b a]
  cases h : sameB a b with
  | true => rfl
  | false =>
    rw [lsB_flip h]
    cases lsB b a <;> rfl
theorem cmpS_self (a : ByteArray) : cmpS a a = 0 := by
  unfold cmpS; rw [if_pos (sameB_iff.2 rfl)]
theorem cmp3_flip (a b : Int) : cmp3 a b = -cmp3 b a := by
  unfold cmp3
  by_cases h : a < b
  · rw [if_pos h, if_neg (by omega), if_pos h]
  · rw [if_neg h]
    by_cases g : b < a
    · rw [if_pos g, if_pos g]
      rfl
    · rw [if_neg g, if_neg g, if_neg h]; rfl
theorem cmp3_self (a : Int) : cmp3 a a = 0 := by simp [cmp3]
def cCmp (t n : Int) (s : ByteArray) (t' n' : Int) (s' : ByteArray) : Int :=
  if (cOk t n s && cOk t' n' s') = true then (if t = 2 ∨ t' = 2 then cmpS (cTxt t n s) (cTxt t' n' s') else cmp3 n n') else 0
theorem cCmp_flip (t n : Int) (s : ByteArray) (t' n' : Int) (s' : ByteArray) : cCmp t n s t' n' s' = -cCmp t' n' s' t n s := by
  unfold cCmp
  rw [Bool.and_comm]
  split
  · by_cases h : t = 2 ∨ t' = 2
    · rw [if_pos h, if_pos h.symm, cmpS_flip]
    · rw [if_neg h, if_neg (fun g => h g.symm), cmp3_flip]
  · rfl
theorem cCmp_self (t n : Int) (s : ByteArray) : cCmp t n s t n s = 0 := by
  unfold cCmp
  split
  · split
    · exact cmpS_self _
    · exact cmp3_self _
  · rfl
theorem cmpS_bd (a b : ByteArray) : -1 ≤ cmpS a b ∧ cmpS a b ≤ 1 := by unfold cmpS; split <;> (try split) <;> omega
theorem cmp3_bd (a b : Int) : -1 ≤ cmp3 a b ∧ cmp3 a b ≤ 1 := by unfold cmp3; split <;> (try split) <;> omega
theorem cCmp_bd (t n : Int) (s : ByteArray) (t' n' : Int) (s' : ByteArray) : -1 ≤ cCmp t n s t' n' s' ∧ cCmp t n s t' n' s' ≤ 1 := by
  unfold cCmp; split
  · split
    · exact cmpS_bd _ _
    · exact cmp3_bd _ _
  · omega
def cRel (k t n : Int) (s : ByteArray) (t' n' : Int) (s' : ByteArray) : Bool :=
  (cOk t n s && cOk t' n' s') && (if k = 15 then decide (cCmp t n s t' n' s' < 0) else if k = 16 then decide (cCmp t n s t' n' s' ≤ 0) else if k = 17 then cCmp t n s t' n' s' == 0 else if k = 18 then !(cCmp t n s t' n' s' == 0) else false)
theorem rdN_ok (s : ByteArray) : dOk (rdN s) = true := by
  have := rV_bd s
  refine dOk_of ?_
  unfold rdN
  split
  · omega
  · split <;> omega
theorem cNum_ok (t n : Int) (s : ByteArray) : dOk (cNum t n s) = true := by
  unfold cNum numOf
  split
  · rename_i h
    split
    · exact rdN_ok s
    · rename_i h2
      by_cases h0 : t = 0
      · subst h0
        rw [cOk_0 (cOk_size h)] at h
        simp at h
        rw [h.2]; decide
      by_cases h1 : t = 1
      · subst h1
        rw [cOk_1 (cOk_size h)] at h
        simp at h
        exact h.2
      by_cases h3 : t = 3
      · subst h3
        rw [cOk_3 (cOk_size h)] at h
        simp at h
        rw [h.2]; exact rdN_ok s
      · rw [cOk_no h0 h1 h2 h3] at h; cases h
  · decide
/-- What the reckoning of a kind gives, and whether it is a decimal. -/
def arV (k a b : Int) : Int := if k = 20 then addV a b else if k = 21 then subV a b else if k = 22 then mulV a b else if k = 23 then divV a b else modV a b
def arB (k a b : Int) : Bool := if k = 20 then addB a b else if k = 21 then subB a b else if k = 22 then mulB a b else if k = 23 then divB a b else modB a b
theorem arB_zero {k a : Int} (h : 23 ≤ k) : arB k a 0 = false := by
  unfold arB
  rw [if_neg (by omega), if_neg (by omega), if_neg (by omega)]
  split <;> simp [divB, modB]
/-- The code of a reckoning, and its number. -/
def arC (k t n : Int) (s : ByteArray) (t' n' : Int) (s' : ByteArray) : Int :=
  if (decide (20 ≤ k ∧ k ≤ 24) && (cOk t n s && cOk t' n' s')) = false then 3
  else if 23 ≤ k ∧ cNum t' n' s' = 0 then 2
  else if arB k (cNum t n s) (cNum t' n' s') = true then 0 else 1
def arT (k t n : Int) (s : ByteArray) (t' n' : Int) (s' : ByteArray) : Int := if arC k t n s t' n' s' = 0 then 1 else 0
def arN (k t n : Int) (s : ByteArray) (t' n' : Int) (s' : ByteArray) : Int := if arC k t n s t' n' s' = 0 then arV k (cNum t n s) (cNum t' n' s') else 0
theorem cTxt_size {t n : Int} {s : ByteArray} (h : cOk t n s = true) : (cTxt t n s).size ≤ 500 := by
  unfold cTxt
  split
  · unfold dtB; split
    · rename_i h1
      have a := head_size n h1
      have b := fracL_size n
      rw [textB_head, ByteArray.size_append]; omega
    · decide
  · exact cOk_size h
end Go.Proofs.YthaedmldlenhgaaGreatDoor.CellPure

namespace Go.Proofs.YthaedmldlenhgaaGreatDoor.Strs
open Go Go.RowKit Go.PlainAid
open Go.Proofs.YthaedmldlenhgaaGreatDoor.DecPure Go.Proofs.YthaedmldlenhgaaGreatDoor.ReadPure Go.Proofs.YthaedmldlenhgaaGreatDoor.TextPure Go.Proofs.YthaedmldlenhgaaGreatDoor.CellPure
set_option linter.unusedVariables false

/-- A value of a list. -/
structure Ce where
  t : Int
  n : Int
  s : ByteArray
def nthC (l : List Ce) (i : Nat) : Ce := l.getD i ⟨0, 0, ⟨#[]⟩⟩
theorem nthC_drop (l : List Ce) (k : Nat) : nthC (l.drop k) 0 = nthC l k := by simp [nthC, List.getD]
def okL (l : List Ce) : Bool := l.all fun c => cOk c.t c.n c.s
theorem okL_at {l : List Ce} (h : ∀ j, j < l.length → cOk (nthC l j).t (nthC l j).n (nthC l j).s = true) : okL l = true := by
  unfold okL
  rw [List.all_eq_true]
  intro c hc
  obtain ⟨i, hi, rfl⟩ := List.getElem_of_mem hc
  have := h i hi
  simpa [nthC, List.getD, hi] using this
theorem okL_no {l : List Ce} {k : Nat} (hk : k < l.length) (h : cOk (nthC l k).t (nthC l k).n (nthC l k).s = false) : okL l = false := by
  unfold okL
  rw [Bool.eq_false_iff]
  intro q
  rw [List.all_eq_true] at q
  have := q (l[k]) (List.getElem_mem hk)
  simp [nthC, List.getD, hk] at h
  rw [h] at this
  cases this
theorem okL_all {l : List Ce} (h : okL l = true) {k : Nat} (hk : k < l.length) : cOk (nthC l k).t (nthC l k).n (nthC l k).s = true := by
  cases hc : cOk (nthC l k).t (nthC l k).n (nthC l k).s with
  | true => rfl
  | false => rw [okL_no hk hc] at h; cases h
end Go.Proofs.YthaedmldlenhgaaGreatDoor.Strs

namespace Go.Proofs.YthaedmldlenhgaaGreatDoor.Strs
open Go Go.RowKit Go.PlainAid
open Go.Proofs.YthaedmldlenhgaaGreatDoor.DecPure Go.Proofs.YthaedmldlenhgaaGreatDoor.ReadPure Go.Proofs.YthaedmldlenhgaaGreatDoor.TextPure Go.Proofs.YthaedmldlenhgaaGreatDoor.CellPure
set_option linter.unusedVariables false

theorem plD_fact (f : ByteArray) : ∀ (m k : Nat) (v : Int), k ≤ f.size → k ≤ (plD f m k v).1 ∧ (plD f m k v).1 ≤ f.size
  | 0, k, v, h => ⟨Nat.le_refl _, h⟩
  | m + 1, k, v, h => by
    rw [plD]
    split
    · rename_i q
      have := plD_fact f m (k + 1) (10 * v + (bt f k - 48)) (by omega)
      omega
    · exact ⟨Nat.le_refl _, h⟩
theorem plD_wide (f : ByteArray) (k : Nat) : 0 ≤ (plD f 2 k 0).2 ∧ (plD f 2 k 0).2 ≤ 99 := by
  have d : ∀ j, dgB (bt f j) = true → 48 ≤ bt f j ∧ bt f j ≤ 57 := fun j h => dgB_yes h
  rw [plD]
  split
  · rename_i q
    have d1 := d k q.2
    rw [plD]
    split
    · rename_i q2
      have d2 := d (k + 1) q2.2
      rw [plD]
      show 0 ≤ _ ∧ _ ≤ _
      omega
    · show 0 ≤ _ ∧ _ ≤ _
      omega
  · exact ⟨Int.le_refl _, by show (0 : Int) ≤ 99; omega⟩
theorem plE_fact {f : ByteArray} {k : Nat} {l : Bool} (h : k ≤ f.size) : (plE f (plD f 2 k 0) l).kind = 0 ∨ (((plE f (plD f 2 k 0) l).kind = 100 ∨ (plE f (plD f 2 k 0) l).kind = 115) ∧ (k : Int) + 1 ≤ (plE f (plD f 2 k 0) l).stop ∧ (plE f (plD f 2 k 0) l).stop ≤ f.size ∧ 0 ≤ (plE f (plD f 2 k 0) l).wide ∧ (plE f (plD f 2 k 0) l).wide ≤ 99) := by
  obtain ⟨h1, h2⟩ := plD_fact f 2 k 0 h
  obtain ⟨h3, h4⟩ := plD_wide f k
  unfold plE
  split
  · rename_i q
    right
    refine ⟨q.2, ?_, ?_, h3, h4⟩
    · show (k : Int) + 1 ≤ ((plD f 2 k 0).1 : Int) + 1
      omega
    · show ((plD f 2 k 0).1 : Int) + 1 ≤ f.size
      omega
  · exact .inl rfl
theorem plc_fact {f : ByteArray} {a : Nat} (h : a < f.size) : (plc f a).kind = 0 ∨ (((plc f a).kind = 37 ∨ (plc f a).kind = 100 ∨ (plc f a).kind = 115) ∧ (a : Int) + 1 ≤ (plc f a).stop ∧ (plc f a).stop ≤ f.size ∧ 0 ≤ (plc f a).wide ∧ (plc f a).wide ≤ 99) := by
  unfold plc
  split
  · rename_i q
    right
    refine ⟨.inl rfl, ?_, ?_, Int.le_refl _, by show (0 : Int) ≤ 99; omega⟩
    · show (a : Int) + 1 ≤ (a : Int) + 1 + 1
      omega
    · show (a : Int) + 1 + 1 ≤ f.size
      omega
  · split
    · rename_i q
      rcases plE_fact (f := f) (k := a + 2) (l := true) (by omega) with h0 | ⟨h1, h2, h3, h4⟩
      · exact .inl h0
      · exact .inr ⟨.inr h1, by omega, h3, h4⟩
    · rcases plE_fact (f := f) (k := a + 1) (l := false) (by omega) with h0 | ⟨h1, h2, h3, h4⟩
      · exact .inl h0
      · exact .inr ⟨.inr h1, by omega, h3, h4⟩

/-- A piece of a format: a text that stands for itself (kind 0), or a conversion. -/
structure It where
  kind : Int
  txt : ByteArray
  wide : Int
  left : Bool
def itsF (f : ByteArray) : Nat → Nat → Option (List It)
  | 0, _ => some []
  | m + 1, i => if i < f.size then
      (if bt f i = 37 then
        (if (plc f i).kind = 0 then none
         else if (plc f i).kind = 37 then (itsF f m (plc f i).stop.toNat).map (⟨0, ⟨#[37]⟩, 0, false⟩ :: ·)
         else (itsF f m (plc f i).stop.toNat).map (⟨(plc f i).kind, ⟨#[]⟩, (plc f i).wide, (plc f i).left⟩ :: ·))
       else (itsF f m (i + 1)).map (⟨0, f.extract i (i + 1), 0, false⟩ :: ·))
    else some []
theorem itsF_more (f : ByteArray) : ∀ (m n i : Nat), f.size < i + m → f.size < i + n → itsF f m i = itsF f n i
  | 0, 0, _, _, _ => rfl
  | 0, n + 1, i, h, _ => by rw [itsF, itsF, if_neg (by omega)]
  | m + 1, 0, i, _, h => by rw [itsF, itsF, if_neg (by omega)]
  | m + 1, n + 1, i, h1, h2 => by
    rw [itsF, itsF]
    by_cases hi : i < f.size
    · rw [if_pos hi, if_pos hi]
      by_cases hb : bt f i = 37
      · rw [if_pos hb, if_pos hb]
        rcases plc_fact hi with h0 | ⟨_, hs, _⟩
        · rw [if_pos h0, if_pos h0]
        · rw [itsF_more f m n _ (by omega) (by omega)]
      · rw [if_neg hb, if_neg hb, itsF_more f m n _ (by omega) (by omega)]
    · rw [if_neg hi, if_neg hi]
/-- The pieces from place i on; none: it is no format. -/
def its (f : ByteArray) (i : Nat) : Option (List It) := itsF f (f.size + 1) i
theorem its_eq (f : ByteArray) (i : Nat) : its f i = itsF f (f.size + 1 + 1) i := itsF_more f _ _ i (by omega) (by omega)
theorem its_end {f : ByteArray} {i : Nat} (h : ¬ i < f.size) : its f i = some [] := by rw [its, itsF, if_neg h]
theorem its_lit {f : ByteArray} {i : Nat} (h : i < f.size) (hb : bt f i ≠ 37) : its f i = (its f (i + 1)).map (⟨0, f.extract i (i + 1), 0, false⟩ :: ·) := by
  rw [its_eq, itsF, if_pos h, if_neg hb]
  rfl
theorem its_bad {f : ByteArray} {i : Nat} (h : i < f.size) (hb : bt f i = 37) (hk : (plc f i).kind = 0) : its f i = none := by
  rw [its_eq, itsF, if_pos h, if_pos hb, if_pos hk]
theorem its_pct {f : ByteArray} {i : Nat} (h : i < f.size) (hb : bt f i = 37) (hk : (plc f i).kind = 37) : its f i = (its f (plc f i).stop.toNat).map (⟨0, ⟨#[37]⟩, 0, false⟩ :: ·) := by
  rw [its_eq, itsF, if_pos h, if_pos hb, if_neg (by omega), if_pos hk]
  rfl
theorem its_cv {f : ByteArray} {i : Nat} (h : i < f.size) (hb : bt f i = 37) (h0 : (plc f i).kind ≠ 0) (hk : (plc f i).kind ≠ 37) : its f i = (its f (plc f i).stop.toNat).map (⟨(plc f i).kind, ⟨#[]⟩, (plc f i).wide, (plc f i).left⟩ :: ·) := by
  rw [its_eq, itsF, if_pos h, if_pos hb, if_neg h0, if_neg hk]
  rfl
/-- How many conversions; their kinds. -/
def nCv : List It → Nat
  | [] => 0
  | x :: r => (if x.kind = 0 then 0 else 1) + nCv r
def kindL : List It → List Int
  | [] => []
  | x :: r => if x.kind = 0 then kindL r else x.kind :: kindL r
theorem nCv_app (a b : List It) : nCv (a ++ b) = nCv a + nCv b := by
  induction a with
  | nil => simp [nCv]
  | cons x r ih => rw [List.cons_append, nCv, nCv, ih]; omega
theorem kindL_app (a b : List It) : kindL (a ++ b) = kindL a ++ kindL b := by
  induction a with
  | nil => rfl
  | cons x r ih =>
    rw [List.cons_append, kindL, kindL, ih]
    split <;> rfl
theorem kindL_len (a : List It) : (kindL a).length = nCv a := by
  induction a with
  | nil => rfl
  | cons x r ih =>
    rw [kindL, nCv]
    split
    · omega
    · rw [List.length_cons]; omega
theorem itsF_len (f : ByteArray) : ∀ (m i : Nat) (l : List It), itsF f m i = some l → i ≤ f.size → i + l.length ≤ f.size
  | 0, i, l, h, hi => by cases h; exact hi
  | m + 1, i, l, h, hi => by
    rw [itsF] at h
    split at h
    · rename_i hl
      split at h
      · split at h
        · cases h
        · rename_i hk
          rcases plc_fact hl with h0 | ⟨_, hs, hs2, _⟩
          · exact absurd h0 hk
          · split at h
            · obtain ⟨r, hr, rfl⟩ := Option.map_eq_some_iff.1 h
              have := itsF_len f m _ r hr (by omega)
              rw [List.length_cons]; omega
            · obtain ⟨r, hr, rfl⟩ := Option.map_eq_some_iff.1 h
              have := itsF_len f m _ r hr (by omega)
              rw [List.length_cons]; omega
      · obtain ⟨r, hr, rfl⟩ := Option.map_eq_some_iff.1 h
        have := itsF_len f m _ r hr (by omega)
        rw [List.length_cons]; omega
    · cases h; exact hi
theorem its_len {f : ByteArray} {i : Nat} {l : List It} (h : its f i = some l) (hi : i ≤ f.size) : i + l.length ≤ f.size := itsF_len f _ i l h hi
theorem nCv_le (l : List It) : nCv l ≤ l.length := by
  induction l with
  | nil => exact Nat.le_refl _
  | cons x r ih => rw [nCv, List.length_cons]; split <;> omega
/-- What Places says. -/
def placesP (f : ByteArray) : Nat × Bool := if 500 < f.size then (0, false) else match its f 0 with
  | none => (0, false)
  | some l => (nCv l, true)
def kindsP (f : ByteArray) : List Int := if 500 < f.size then [] else match its f 0 with
  | none => []
  | some l => kindL l

/-- So many blanks. -/
def blS (n : Nat) : ByteArray := ⟨Array.replicate n 32⟩
theorem blS_size (n : Nat) : (blS n).size = n := by simp [blS, ByteArray.size]
def padP (s : ByteArray) (wide : Int) (left : Bool) : ByteArray := if left = true then s ++ blS (wide.toNat - s.size) else blS (wide.toNat - s.size) ++ s
theorem padP_size (s : ByteArray) (wide : Int) (left : Bool) : (padP s wide left).size = s.size + (wide.toNat - s.size) := by
  unfold padP
  split
  · rw [ByteArray.size_append, blS_size]
  · rw [ByteArray.size_append, blS_size]; omega
theorem bl_app (a b : Nat) : blS a ++ blS b = blS (a + b) := by
  apply ByteArray.ext
  rw [ByteArray.data_append]
  simp [blS]
/-- What a piece gives, the next value being v. -/
def pieceP (x : It) (v : Ce) : ByteArray := if x.kind = 0 then x.txt else padP (if x.kind = 115 then cStr v.t v.n v.s else dtB (intV (cNum v.t v.n v.s))) x.wide x.left
def outP : List It → List Ce → ByteArray
  | [], _ => ⟨#[]⟩
  | x :: r, l => pieceP x (nthC l 0) ++ outP r (if x.kind = 0 then l else l.drop 1)
theorem outP_snoc (x : It) : ∀ (a : List It) (l : List Ce), outP (a ++ [x]) l = outP a l ++ pieceP x (nthC l (nCv a))
  | [], l => by
    show pieceP x (nthC l 0) ++ ⟨#[]⟩ = ⟨#[]⟩ ++ pieceP x (nthC l 0)
    apply ByteArray.ext
    simp [ByteArray.data_append]
  | y :: a, l => by
    rw [List.cons_append, outP, outP_snoc x a, outP, nCv]
    by_cases hk : y.kind = 0
    · rw [if_pos hk, if_pos hk, Nat.zero_add]
      apply ByteArray.ext
      simp [ByteArray.data_append]
    · rw [if_neg hk, if_neg hk]
      have e : nthC (l.drop 1) (nCv a) = nthC l (1 + nCv a) := by simp [nthC, List.getD, Nat.add_comm]
      rw [e]
      apply ByteArray.ext
      simp [ByteArray.data_append]
theorem outP_app : ∀ (a b : List It) (l : List Ce), (outP a l).size ≤ (outP (a ++ b) l).size
  | [], b, l => Nat.zero_le _
  | y :: a, b, l => by
    rw [List.cons_append, outP, outP, ByteArray.size_append, ByteArray.size_append]
    have := outP_app a b (if y.kind = 0 then l else l.drop 1)
    omega
/-- What Format says. -/
def fmtP (f : ByteArray) (l : List Ce) : ByteArray × Int :=
  if (placesP f).2 = false ∨ okL l = false then (⟨#[]⟩, 1)
  else if l.length < (placesP f).1 then (⟨#[]⟩, 2)
  else if 500 < (outP ((its f 0).getD []) l).size then (⟨#[]⟩, 3)
  else (outP ((its f 0).getD []) l, 0)
end Go.Proofs.YthaedmldlenhgaaGreatDoor.Strs

namespace Go.Proofs.YthaedmldlenhgaaGreatDoor.RecPure
open Go Go.RowKit Go.PlainAid
open Go.Proofs.YthaedmldlenhgaaGreatDoor.DecPure Go.Proofs.YthaedmldlenhgaaGreatDoor.ReadPure
set_option linter.unusedVariables false

/-- The lines that have ended among the first bytes, and where the next one begins. -/
def lnO (s : ByteArray) : Nat → List ByteArray
  | 0 => []
  | i + 1 => if bt s i = 10 then lnO s i ++ [s.extract (lnF s i) i] else lnO s i
where lnF (s : ByteArray) : Nat → Nat
  | 0 => 0
  | i + 1 => if bt s i = 10 then i + 1 else lnF s i
abbrev lnF := lnO.lnF
theorem lnF_le (s : ByteArray) : ∀ i, lnF s i ≤ i
  | 0 => Nat.le_refl _
  | i + 1 => by
    have := lnF_le s i
    show lnO.lnF s (i + 1) ≤ _
    rw [lnO.lnF]; split
    · omega
    · have h : lnO.lnF s i ≤ i := this
      omega
theorem lnO_len (s : ByteArray) : ∀ i, (lnO s i).length ≤ i
  | 0 => Nat.le_refl _
  | i + 1 => by
    have := lnO_len s i
    rw [lnO]; split
    · rw [List.length_append, List.length_singleton]; omega
    · omega
theorem lnO_yes {s : ByteArray} {i : Nat} (h : bt s i = 10) : lnO s (i + 1) = lnO s i ++ [s.extract (lnF s i) i] ∧ lnF s (i + 1) = i + 1 := by
  refine ⟨by rw [lnO, if_pos h], ?_⟩
  show lnO.lnF s (i + 1) = _
  rw [lnO.lnF, if_pos h]
theorem lnO_no {s : ByteArray} {i : Nat} (h : bt s i ≠ 10) : lnO s (i + 1) = lnO s i ∧ lnF s (i + 1) = lnF s i := by
  refine ⟨by rw [lnO, if_neg h], ?_⟩
  show lnO.lnF s (i + 1) = _
  rw [lnO.lnF, if_neg h]
def linesP (s : ByteArray) : List ByteArray :=
  if 3000 < s.size then [] else if lnF s s.size < s.size then lnO s s.size ++ [s.extract (lnF s s.size) s.size] else lnO s s.size
theorem linesP_len (s : ByteArray) : (linesP s).length ≤ 3001 := by
  unfold linesP
  have := lnO_len s s.size
  split
  · simp
  · split
    · rw [List.length_append, List.length_singleton]; omega
    · omega

/-- No white byte. -/
def nwB (b : Int) : Bool := !(spB b)
/-- The fields from a place on. -/
def fldF (s : ByteArray) : Nat → Nat → List ByteArray
  | 0, _ => []
  | m + 1, a => if endOf spB s a < s.size then s.extract (endOf spB s a) (endOf nwB s (endOf spB s a)) :: fldF s m (endOf nwB s (endOf spB s a)) else []
theorem fld_next {s : ByteArray} {a : Nat} (h : endOf spB s a < s.size) : a < endOf nwB s (endOf spB s a) ∧ endOf spB s a < endOf nwB s (endOf spB s a) := by
  have h1 := endOf_ge spB s a
  have h2 : nwB (bt s (endOf spB s a)) = true := by unfold nwB; rw [endOf_out h]; rfl
  have h3 := endOf_step h h2
  have h4 := endOf_ge nwB s (endOf spB s a + 1)
  omega
theorem fldF_more (s : ByteArray) : ∀ (m n a : Nat), s.size < a + m → s.size < a + n → fldF s m a = fldF s n a
  | 0, 0, _, _, _ => rfl
  | 0, n + 1, a, h, _ => by
    have hge := endOf_ge spB s a
    rw [fldF, fldF, if_neg (by omega)]
  | m + 1, 0, a, _, h => by
    have hge := endOf_ge spB s a
    rw [fldF, fldF, if_neg (by omega)]
  | m + 1, n + 1, a, h1, h2 => by
    rw [fldF, fldF]
    by_cases hb : endOf spB s a < s.size
    · have := fld_next hb
      rw [if_pos hb, if_pos hb, fldF_more s m n _ (by omega) (by omega)]
    · rw [if_neg hb, if_neg hb]
def fld (s : ByteArray) (a : Nat) : List ByteArray := fldF s (s.size + 1) a
theorem fld_yes {s : ByteArray} {a : Nat} (h : endOf spB s a < s.size) : fld s a = s.extract (endOf spB s a) (endOf nwB s (endOf spB s a)) :: fld s (endOf nwB s (endOf spB s a)) := by
  have := fld_next h
  have e : fld s a = fldF s (s.size + 2) a := fldF_more s _ _ a (by omega) (by omega)
  rw [e, fldF, if_pos h]
  rfl
theorem fld_no {s : ByteArray} {a : Nat} (h : ¬ endOf spB s a < s.size) : fld s a = [] := by
  unfold fld; rw [fldF, if_neg h]
theorem fldF_len (s : ByteArray) : ∀ (m a : Nat), (fldF s m a).length ≤ m
  | 0, _ => Nat.le_refl _
  | m + 1, a => by
    rw [fldF]; split
    · have := fldF_len s m (endOf nwB s (endOf spB s a)); simp; omega
    · simp
def fieldsP (s : ByteArray) : List ByteArray := if 500 < s.size then [] else (fld s 0).take 50
theorem fieldsP_len (s : ByteArray) : (fieldsP s).length ≤ 50 := by
  unfold fieldsP; split
  · simp
  · rw [List.length_take]; omega
end Go.Proofs.YthaedmldlenhgaaGreatDoor.RecPure

namespace Go.Proofs.YthaedmldlenhgaaGreatDoor.RecPure
open Go Go.RowKit Go.PlainAid
open Go.Proofs.YthaedmldlenhgaaGreatDoor.DecPure Go.Proofs.YthaedmldlenhgaaGreatDoor.ReadPure
set_option linter.unusedVariables false

/-- Does t stand at place i of s? -/
def mtB (s t : ByteArray) (i : Nat) : Bool := (s.extract i (i + t.size)).toList == t.toList
/-- The parts from place i on, where the part at hand began at f. -/
def splF (s t : ByteArray) : Nat → Nat → Nat → List ByteArray
  | 0, i, f => [s.extract f s.size]
  | m + 1, i, f => if i + t.size ≤ s.size then (if mtB s t i = true then s.extract f i :: splF s t m (i + t.size) (i + t.size) else splF s t m (i + 1) f) else [s.extract f s.size]
theorem splF_more (s t : ByteArray) (ht : 1 ≤ t.size) : ∀ (m n i f : Nat), s.size < i + m → s.size < i + n → splF s t m i f = splF s t n i f
  | 0, 0, _, _, _, _ => rfl
  | 0, n + 1, i, f, h, _ => by rw [splF, splF, if_neg (by omega)]
  | m + 1, 0, i, f, _, h => by rw [splF, splF, if_neg (by omega)]
  | m + 1, n + 1, i, f, h1, h2 => by
    rw [splF, splF]
    split
    · split
      · rw [splF_more s t ht m n _ _ (by omega) (by omega)]
      · rw [splF_more s t ht m n _ _ (by omega) (by omega)]
    · rfl
def spl (s t : ByteArray) (i f : Nat) : List ByteArray := splF s t (s.size + 1) i f
theorem spl_yes {s t : ByteArray} (ht : 1 ≤ t.size) {i f : Nat} (h : i + t.size ≤ s.size) (hm : mtB s t i = true) : spl s t i f = s.extract f i :: spl s t (i + t.size) (i + t.size) := by
  have e : spl s t i f = splF s t (s.size + 2) i f := splF_more s t ht _ _ i f (by omega) (by omega)
  rw [e, splF, if_pos h, if_pos hm]
  rfl
theorem spl_no {s t : ByteArray} (ht : 1 ≤ t.size) {i f : Nat} (h : i + t.size ≤ s.size) (hm : mtB s t i = false) : spl s t i f = spl s t (i + 1) f := by
  have e : spl s t i f = splF s t (s.size + 2) i f := splF_more s t ht _ _ i f (by omega) (by omega)
  rw [e, splF, if_pos h, if_neg (by rw [hm]; simp)]
  rfl
theorem spl_end {s t : ByteArray} {i f : Nat} (h : ¬ i + t.size ≤ s.size) : spl s t i f = [s.extract f s.size] := by
  unfold spl; rw [splF, if_neg h]
/-- What SplitBy gives. -/
def splitP (s t : ByteArray) : List ByteArray :=
  if (t.toList == [32]) = true then fieldsP s
  else if 500 < s.size ∨ s.toList.isEmpty = true then []
  else if t.toList.isEmpty = true then [s]
  else (spl s t 0 0).take 50
theorem splitP_len (s t : ByteArray) : (splitP s t).length ≤ 50 := by
  unfold splitP
  split
  · exact fieldsP_len s
  · split
    · simp
    · split
      · simp
      · rw [List.length_take]; omega
theorem size_nil (s : ByteArray) : s.toList.isEmpty = decide (s.size = 0) := by
  rw [ByteArray.toList_eq, Bool.eq_iff_iff, List.isEmpty_iff_length_eq_zero]
  simp only [decide_eq_true_eq]
  rfl
end Go.Proofs.YthaedmldlenhgaaGreatDoor.RecPure

namespace Go.Proofs.YthaedmldlenhgaaGreatDoor.SubPure
open Go Go.RowKit Go.PlainAid
open Go.Proofs.YthaedmldlenhgaaGreatDoor.DecPure Go.Proofs.YthaedmldlenhgaaGreatDoor.ReadPure Go.Proofs.YthaedmldlenhgaaGreatDoor.TextPure Go.Proofs.YthaedmldlenhgaaGreatDoor.CellPure
set_option linter.unusedVariables false

theorem ba_same {s t : ByteArray} (hn : s.size = t.size) (h : ∀ i, i < s.size → bt s i = bt t i) : s = t := by
  apply ByteArray.ext
  apply Array.ext
  · exact hn
  · intro i h1 h2
    have e := h i h1
    unfold bt at e
    rw [dif_pos (show i < s.size from h1), dif_pos (show i < t.size from h2)] at e
    have e2 : (s[i]'h1).toNat = (t[i]'h2).toNat := by omega
    exact UInt8.toNat_inj.mp e2
def bz (s : ByteArray) (a n : Nat) : List Int := (List.range n).map fun i => bt s (a + i)
theorem bz_step (s : ByteArray) (a n : Nat) : bz s a (n + 1) = bz s a n ++ [bt s (a + n)] := by simp [bz, List.range_succ]
theorem bt_num {L : List Int} {i : Nat} (hi : i < L.length) (h0 : 0 ≤ L[i]) (h1 : L[i] ≤ 255) : bt (strOfNums L) i = L[i] := by
  unfold bt
  rw [dif_pos (by rw [strOfNums_size]; exact hi)]
  have hd : i < (strOfNums L).data.size := by show i < (strOfNums L).size; rw [strOfNums_size]; exact hi
  have e : (strOfNums L).data[i]'hd = UInt8.ofNat (L[i]).toNat := by simp [strOfNums]
  show (((strOfNums L).data[i]'hd).toNat : Int) = _
  rw [e]
  simp
  omega
theorem str_bz {s : ByteArray} {a n : Nat} (h : a + n ≤ s.size) : strOfNums (bz s a n) = s.extract a (a + n) := by
  have hl : (bz s a n).length = n := by simp [bz]
  refine ba_same (by rw [strOfNums_size, hl, size_ext s a _ h]; omega) fun i hi => ?_
  rw [strOfNums_size, hl] at hi
  have hg : (bz s a n)[i]'(by rw [hl]; exact hi) = bt s (a + i) := by simp [bz]
  rw [bt_num (by rw [hl]; exact hi) (by rw [hg]; exact bt_nonneg _ _) (by rw [hg]; exact bt_le _ _), hg, bt_ext s a (a + n) i h (by omega)]

/-- Is the byte at place k (from 0 on) within the part? -/
def inB (f n : Int) (k : Nat) : Bool := decide (f ≤ (k : Int) + 1) && (n == 9000000000000 || (decide (0 < n) && decide ((k : Int) + 1 - n < f)))
def subA (s : ByteArray) (f n : Int) : Nat → List Int
  | 0 => []
  | k + 1 => if inB f n k = true then subA s f n k ++ [bt s k] else subA s f n k
theorem subA_len (s : ByteArray) (f n : Int) : ∀ k, (subA s f n k).length ≤ k
  | 0 => by simp [subA]
  | k + 1 => by
    have := subA_len s f n k
    rw [subA]; split
    · simp; omega
    · omega
/-- Where the part begins and ends, as places from 0 on. -/
def loN (f : Int) : Nat := (max f 1 - 1).toNat
def hiN (z : Nat) (f n : Int) : Nat := if n ≤ 0 then 0 else if n = 9000000000000 then z else (min (f + n) ((z : Int) + 1) - 1).toNat
theorem hiN_le (z : Nat) (f n : Int) : hiN z f n ≤ z := by
  unfold hiN; split
  · omega
  · split <;> omega
theorem inB_iff {f n : Int} {k z : Nat} (hk : k < z) : inB f n k = true ↔ loN f ≤ k ∧ k < hiN z f n := by
  unfold inB loN hiN
  simp only [Bool.and_eq_true, Bool.or_eq_true, decide_eq_true_eq, beq_iff_eq]
  by_cases h0 : n ≤ 0
  · rw [if_pos h0]; omega
  · rw [if_neg h0]
    by_cases h1 : n = 9000000000000
    · rw [if_pos h1]; omega
    · rw [if_neg h1]; omega
theorem subA_eq {s : ByteArray} {f n : Int} : ∀ {k : Nat}, k ≤ s.size → subA s f n k = bz s (loN f) (min k (hiN s.size f n) - loN f)
  | 0, _ => by simp [subA, bz]
  | k + 1, h => by
    have ih := subA_eq (s := s) (f := f) (n := n) (k := k) (by omega)
    have hi := inB_iff (f := f) (n := n) (k := k) (z := s.size) (by omega)
    rw [subA]
    by_cases hb : inB f n k = true
    · obtain ⟨h1, h2⟩ := hi.1 hb
      rw [if_pos hb, ih, show min (k + 1) (hiN s.size f n) - loN f = (min k (hiN s.size f n) - loN f) + 1 by omega, bz_step, show loN f + (min k (hiN s.size f n) - loN f) = k by omega]
    · rw [if_neg hb, ih]
      have : ¬ (loN f ≤ k ∧ k < hiN s.size f n) := fun g => hb (hi.2 g)
      rw [show min (k + 1) (hiN s.size f n) - loN f = min k (hiN s.size f n) - loN f by omega]
/-- The part. -/
def subS (s : ByteArray) (f n : Int) : ByteArray := if loN f < hiN s.size f n then s.extract (loN f) (hiN s.size f n) else ⟨#[]⟩
theorem subA_str (s : ByteArray) (f n : Int) : strOfNums (subA s f n s.size) = subS s f n := by
  have hh := hiN_le s.size f n
  rw [subA_eq (Nat.le_refl _)]
  unfold subS
  split
  · rw [Nat.min_eq_right hh, str_bz (by omega), show loN f + (hiN s.size f n - loN f) = hiN s.size f n by omega]
  · rw [show min s.size (hiN s.size f n) - loN f = 0 by omega]; rfl
theorem subS_size (s : ByteArray) (f n : Int) : (subS s f n).size ≤ s.size := by
  have hh := hiN_le s.size f n
  unfold subS; split
  · rw [size_ext s _ _ hh]; omega
  · exact Nat.zero_le _
theorem subS_whole (s : ByteArray) (n : Int) (h : n = 9000000000000 ∨ (n = s.size ∧ s.size < 9000000000000)) : subS s 1 n = s := by
  have hlo : loN 1 = 0 := rfl
  have hhi : hiN s.size 1 n = s.size ∨ s.size = 0 := by
    unfold hiN
    rcases h with rfl | ⟨rfl, hz⟩
    · left; rw [if_neg (by omega), if_pos rfl]
    · rcases Nat.eq_zero_or_pos s.size with hp | hp
      · exact .inr hp
      · left; rw [if_neg (by omega), if_neg (by omega)]; omega
  by_cases hp : s.size = 0
  · have : (subS s 1 n).size = 0 := by have := subS_size s 1 n; omega
    exact ba_same (by omega) fun i hi => by omega
  · rcases hhi with hhi | hhi
    · unfold subS
      rw [hlo, hhi, if_pos (by omega)]
      refine ba_same (by rw [size_ext s 0 _ (Nat.le_refl _)]; omega) fun i hi => ?_
      rw [size_ext s 0 _ (Nat.le_refl _)] at hi
      rw [bt_ext s 0 _ i (Nat.le_refl _) hi, Nat.zero_add]
    · exact absurd hhi hp

/-- Where t stands in s, from 1 on; 0 if nowhere. -/
def ixN (s t : ByteArray) : Int := if nilB t = true then 0 else Lib.index s.data.toList t.data.toList + 1
def occ (s t : ByteArray) (i : Nat) : Bool := Lib.occAt s.data.toList t.data.toList i
theorem len_data (s : ByteArray) : s.data.toList.length = s.size := by rw [Array.length_toList]; rfl
theorem ext_data (s : ByteArray) (a b : Nat) : (s.extract a b).data.toList = (s.data.toList.drop a).take (b - a) := by
  rw [ByteArray.data_extract]
  simp
theorem occ_eq {s t : ByteArray} {i : Nat} (h : i + t.size ≤ s.size) : ((s.extract i (i + t.size)).toList == t.toList) = occ s t i := by
  have hz := len_data t
  rw [Bool.eq_iff_iff, beq_iff_eq, ByteArray.toList_eq, ByteArray.toList_eq, ext_data]
  unfold occ Lib.occAt
  rw [List.isPrefixOf_iff_prefix, List.prefix_iff_eq_take, hz]
  rw [show i + t.size - i = t.size by omega]
  exact ⟨fun h => h.symm, fun h => h.symm⟩
theorem occ_room {s t : ByteArray} {i : Nat} (ht : nilB t = false) (h : occ s t i = true) : i + t.size ≤ s.size := by
  rcases Lib.occAt_room h with g | g
  · rw [len_data, len_data] at g; exact g
  · exfalso
    have : t.size = 0 := by rw [← len_data, g]; rfl
    rw [nilB_size] at ht
    simp [this] at ht
theorem ix_first {s t : ByteArray} {i : Nat} (ht : nilB t = false) (h : occ s t i = true) (hn : ∀ j, j < i → occ s t j = false) : ixN s t = (i : Int) + 1 := by
  have hr := occ_room ht h
  unfold ixN
  rw [if_neg (by rw [ht]; simp), Lib.index_first (by rw [len_data]; omega) h hn]
theorem ix_none {s t : ByteArray} (ht : nilB t = false) (hn : ∀ j, j + t.size ≤ s.size → occ s t j = false) : ixN s t = 0 := by
  unfold ixN
  rw [if_neg (by rw [ht]; simp), Lib.index_none (fun j _ => by
    by_cases g : j + t.size ≤ s.size
    · exact hn j g
    · cases ho : Lib.occAt s.data.toList t.data.toList j with
      | false => rfl
      | true => exact absurd (occ_room (s := s) ht ho) g)]
  rfl
end Go.Proofs.YthaedmldlenhgaaGreatDoor.SubPure

namespace Go.Proofs.YthaedmldlenhgaaGreatDoor.RecPure
open Go Go.RowKit Go.PlainAid
open Go.Proofs.YthaedmldlenhgaaGreatDoor.DecPure Go.Proofs.YthaedmldlenhgaaGreatDoor.ReadPure Go.Proofs.YthaedmldlenhgaaGreatDoor.TextPure Go.Proofs.YthaedmldlenhgaaGreatDoor.CellPure Go.Proofs.YthaedmldlenhgaaGreatDoor.SubPure
set_option linter.unusedVariables false

/-- The words from place i on, where the word at hand began at f. -/
def wdF (s : ByteArray) : Nat → Nat → Nat → List ByteArray
  | 0, _, _ => []
  | m + 1, i, f => if i < s.size then (if spB (bt s i) = true then (if f < i then s.extract f i :: wdF s m (i + 1) (i + 1) else wdF s m (i + 1) (i + 1)) else wdF s m (i + 1) f) else (if f < s.size then [s.extract f s.size] else [])
theorem wdF_more (s : ByteArray) : ∀ (m n i f : Nat), s.size < i + m → s.size < i + n → i ≤ s.size → wdF s m i f = wdF s n i f
  | 0, 0, _, _, _, _, _ => rfl
  | 0, n + 1, i, f, h, _, hi => by omega
  | m + 1, 0, i, f, _, h, hi => by omega
  | m + 1, n + 1, i, f, h1, h2, hi => by
    rw [wdF, wdF]
    by_cases hl : i < s.size
    · rw [if_pos hl, if_pos hl, wdF_more s m n (i + 1) (i + 1) (by omega) (by omega) (by omega), wdF_more s m n (i + 1) f (by omega) (by omega) (by omega)]
    · rw [if_neg hl, if_neg hl]
def wd (s : ByteArray) (i f : Nat) : List ByteArray := wdF s (s.size + 1) i f
theorem wd_eq {s : ByteArray} {i f : Nat} (h : i ≤ s.size) : wd s i f = wdF s (s.size + 2) i f := wdF_more s _ _ i f (by omega) (by omega) h
theorem wd_cut {s : ByteArray} {i f : Nat} (h : i < s.size) (hw : spB (bt s i) = true) (hf : f < i) : wd s i f = s.extract f i :: wd s (i + 1) (i + 1) := by
  rw [wd_eq (by omega), wdF, if_pos h, if_pos hw, if_pos hf]
  rfl
theorem wd_skip {s : ByteArray} {i f : Nat} (h : i < s.size) (hw : spB (bt s i) = true) (hf : ¬ f < i) : wd s i f = wd s (i + 1) (i + 1) := by
  rw [wd_eq (by omega), wdF, if_pos h, if_pos hw, if_neg hf]
  rfl
theorem wd_in {s : ByteArray} {i f : Nat} (h : i < s.size) (hw : spB (bt s i) = false) : wd s i f = wd s (i + 1) f := by
  rw [wd_eq (by omega), wdF, if_pos h, if_neg (by rw [hw]; simp)]
  rfl
theorem wd_last {s : ByteArray} {f : Nat} (hf : f < s.size) : wd s s.size f = [s.extract f s.size] := by
  rw [wd, wdF, if_neg (by omega), if_pos hf]
theorem wd_end {s : ByteArray} {f : Nat} (hf : ¬ f < s.size) : wd s s.size f = [] := by
  rw [wd, wdF, if_neg (by omega), if_neg hf]
theorem wd_fld (s : ByteArray) : ∀ (m i f : Nat), s.size = i + m → f ≤ i →
    wd s i f = if f < i then s.extract f (endOf nwB s i) :: fld s (endOf nwB s i) else fld s i
  | 0, i, f, hm, hf => by
    obtain rfl : i = s.size := by omega
    have e1 : endOf nwB s s.size = s.size := endOf_stop (fun h => by omega)
    have e2 : endOf spB s s.size = s.size := endOf_stop (fun h => by omega)
    have e3 : fld s s.size = [] := fld_no (by rw [e2]; omega)
    rw [e1, e3]
    by_cases h : f < s.size
    · rw [wd_last h, if_pos h]
    · rw [wd_end h, if_neg h]
  | m + 1, i, f, hm, hf => by
    have hi : i < s.size := by omega
    by_cases hw : spB (bt s i) = true
    · have e1 : endOf nwB s i = i := endOf_stop (fun h => by have := h.2; unfold nwB at this; rw [hw] at this; cases this)
      have e2 : endOf spB s i = endOf spB s (i + 1) := endOf_step hi hw
      have ih := wd_fld s m (i + 1) (i + 1) (by omega) (Nat.le_refl _)
      rw [if_neg (by omega)] at ih
      have e3 : fld s i = fld s (i + 1) := by
        by_cases hx : endOf spB s i < s.size
        · exact (fld_yes hx).trans (by rw [e2]; exact (fld_yes (by rw [← e2]; exact hx)).symm)
        · rw [fld_no hx, fld_no (by rw [← e2]; exact hx)]
      rw [e1, e3]
      by_cases h : f < i
      · rw [wd_cut hi hw h, if_pos h, ih]
      · rw [wd_skip hi hw h, if_neg h, ih]
    · have hw' : spB (bt s i) = false := by simpa using hw
      have e1 : endOf nwB s i = endOf nwB s (i + 1) := endOf_step hi (by unfold nwB; rw [hw']; rfl)
      have ih := wd_fld s m (i + 1) f (by omega) (by omega)
      rw [if_pos (by omega)] at ih
      rw [wd_in hi hw', ih, ← e1]
      by_cases h : f < i
      · rw [if_pos h]
      · obtain rfl : f = i := by omega
        have e2 : endOf spB s f = f := endOf_stop (fun h => by rw [hw'] at h; cases h.2)
        have e4 := fld_yes (s := s) (a := f) (by rw [e2]; exact hi)
        rw [e2] at e4
        rw [if_neg h]
        exact e4.symm
theorem wd_all (s : ByteArray) : wd s 0 0 = fld s 0 := by
  rw [wd_fld s s.size 0 0 (by omega) (Nat.le_refl _), if_neg (by omega)]
theorem wd_jump {s : ByteArray} {f : Nat} : ∀ {m i : Nat}, i + m ≤ s.size → (∀ k, k < m → spB (bt s (i + k)) = false) → wd s i f = wd s (i + m) f
  | 0, i, _, _ => rfl
  | m + 1, i, h, hw => by
    have h0 : spB (bt s i) = false := hw 0 (by omega)
    rw [wd_in (by omega) h0, wd_jump (m := m) (i := i + 1) (by omega) (fun k hk => by have := hw (k + 1) (by omega); rwa [show i + 1 + k = i + (k + 1) by omega]), show i + 1 + m = i + (m + 1) by omega]
/-- A letter of more than one byte holds no white one behind its first. -/
theorem dec_fact (s : ByteArray) (i : Nat) (h : i < s.size) : 1 ≤ (Utf8.decode s i).2 ∧ i + (Utf8.decode s i).2 ≤ s.size ∧ ∀ k, 1 ≤ k → k < (Utf8.decode s i).2 → spB (bt s (i + k)) = false := by
  have hg : ∀ k, i + k < s.size → bt s (i + k) = ((s.get! (i + k)).toNat : Int) := fun k hk => by
    rw [← get_bt s (i + k) hk]
    have : s.get! (i + k) = s[i + k]'hk := by
      show s.get! (i + k) = _
      simp [ByteArray.get!, getElem!_pos, hk]
      rfl
    rw [this]
  have hsp : ∀ k, i + k < s.size → (s.get! (i + k)).toNat / 64 = 2 → spB (bt s (i + k)) = false := fun k hk h2 => by
    rw [hg k hk]
    unfold spB
    simp
    omega
  have key : ∀ w : Nat, (w = 1 ∨ (w = 2 ∧ i + 1 < s.size ∧ (s.get! (i + 1)).toNat / 64 = 2) ∨ (w = 3 ∧ (i + 1 < s.size ∧ (s.get! (i + 1)).toNat / 64 = 2) ∧ i + 2 < s.size ∧ (s.get! (i + 2)).toNat / 64 = 2) ∨ (w = 4 ∧ ((i + 1 < s.size ∧ (s.get! (i + 1)).toNat / 64 = 2) ∧ i + 2 < s.size ∧ (s.get! (i + 2)).toNat / 64 = 2) ∧ i + 3 < s.size ∧ (s.get! (i + 3)).toNat / 64 = 2)) →
      1 ≤ w ∧ i + w ≤ s.size ∧ ∀ k, 1 ≤ k → k < w → spB (bt s (i + k)) = false := by
    intro w hw
    rcases hw with rfl | ⟨rfl, h1, g1⟩ | ⟨rfl, ⟨h1, g1⟩, h2, g2⟩ | ⟨rfl, ⟨⟨h1, g1⟩, h2, g2⟩, h3, g3⟩
    · exact ⟨by omega, by omega, fun k h1 h2 => by omega⟩
    · refine ⟨by omega, by omega, fun k hk1 hk2 => ?_⟩
      obtain rfl : k = 1 := by omega
      exact hsp 1 h1 g1
    · refine ⟨by omega, by omega, fun k hk1 hk2 => ?_⟩
      have : k = 1 ∨ k = 2 := by omega
      rcases this with rfl | rfl
      · exact hsp 1 h1 g1
      · exact hsp 2 h2 g2
    · refine ⟨by omega, by omega, fun k hk1 hk2 => ?_⟩
      have : k = 1 ∨ k = 2 ∨ k = 3 := by omega
      rcases this with rfl | rfl | rfl
      · exact hsp 1 h1 g1
      · exact hsp 2 h2 g2
      · exact hsp 3 h3 g3
  apply key
  unfold Utf8.decode
  simp only
  split
  · exact .inl rfl
  · split
    · rename_i hc
      simp only [Bool.and_eq_true, beq_iff_eq, decide_eq_true_eq] at hc
      split
      · exact .inr (.inl ⟨rfl, hc.2.1, hc.2.2⟩)
      · exact .inl rfl
    · split
      · rename_i hc
        simp only [Bool.and_eq_true, beq_iff_eq, decide_eq_true_eq] at hc
        split
        · exact .inr (.inr (.inl ⟨rfl, hc.1.2, hc.2⟩))
        · exact .inl rfl
      · split
        · rename_i hc
          simp only [Bool.and_eq_true, beq_iff_eq, decide_eq_true_eq] at hc
          split
          · exact .inr (.inr (.inr ⟨rfl, ⟨hc.1.1.2, hc.1.2⟩, hc.2⟩))
          · exact .inl rfl
        · exact .inl rfl

theorem spl_none {s t : ByteArray} (ht : 1 ≤ t.size) {f : Nat} : ∀ {m i : Nat}, s.size < i + m → (∀ j, i ≤ j → j + t.size ≤ s.size → mtB s t j = false) → spl s t i f = [s.extract f s.size]
  | 0, i, h, _ => spl_end (by omega)
  | m + 1, i, h, hn => by
    by_cases hr : i + t.size ≤ s.size
    · rw [spl_no ht hr (hn i (Nat.le_refl _) hr)]
      exact spl_none ht (m := m) (by omega) (fun j h1 h2 => hn j (by omega) h2)
    · exact spl_end hr
theorem spl_first {s t : ByteArray} (ht : 1 ≤ t.size) {f k : Nat} (hk : k + t.size ≤ s.size) (hm : mtB s t k = true) : ∀ {d i : Nat}, k = i + d → (∀ j, i ≤ j → j < k → mtB s t j = false) → spl s t i f = s.extract f k :: spl s t (k + t.size) (k + t.size)
  | 0, i, h, _ => by
    obtain rfl : k = i := by omega
    exact spl_yes ht hk hm
  | d + 1, i, h, hn => by
    rw [spl_no ht (by omega) (hn i (Nat.le_refl _) (by omega))]
    exact spl_first ht hk hm (d := d) (by omega) (fun j h1 h2 => hn j (by omega) h2)
theorem drop_data (s : ByteArray) (f : Nat) : (s.extract f s.size).data.toList = s.data.toList.drop f := by
  rw [ext_data, List.take_of_length_le (by rw [List.length_drop, len_data]; exact Nat.le_refl _)]
theorem mk_ext {s : ByteArray} {l : List UInt8} {a b : Nat} (h : l = (s.data.toList.drop a).take (b - a)) : (⟨l.toArray⟩ : ByteArray) = s.extract a b := by
  rw [h, ← ext_data]
/-- What cutting the rest off gives. -/
def cutB (x t : ByteArray) : List UInt8 × List UInt8 × Bool := Lib.cut x.data.toList t.data.toList
theorem spl_cut (s t : ByteArray) (ht : 1 ≤ t.size) (f : Nat) (hf : f ≤ s.size) :
    (∃ k, f ≤ k ∧ k + t.size ≤ s.size ∧ cutB (s.extract f s.size) t = ((s.extract f k).data.toList, (s.extract (k + t.size) s.size).data.toList, true) ∧ spl s t f f = s.extract f k :: spl s t (k + t.size) (k + t.size)) ∨
    (cutB (s.extract f s.size) t = ((s.extract f s.size).data.toList, [], false) ∧ spl s t f f = [s.extract f s.size]) := by
  have hn : nilB t = false := by
    rw [nilB_size]
    exact decide_eq_false (by omega)
  have ho : ∀ j, Lib.occAt (s.data.toList.drop f) t.data.toList j = occ s t (f + j) := fun j => by
    unfold occ Lib.occAt
    rw [List.drop_drop]
  have hdl : (s.data.toList.drop f).length = s.size - f := by rw [List.length_drop, len_data]
  rcases Lib.index_spec (s.data.toList.drop f) t.data.toList with ⟨h1, h2⟩ | ⟨i, h1, h2, h3, h4⟩
  · refine .inr ⟨?_, spl_none ht (m := s.size + 1) (by omega) (fun j hj hr => ?_)⟩
    · unfold cutB Lib.cut
      rw [drop_data, h1]
      rfl
    · have := h2 (j - f) (by rw [hdl]; omega)
      rw [ho, show f + (j - f) = j by omega] at this
      unfold mtB
      rw [occ_eq hr]
      exact this
  · rw [ho] at h3
    have hr := occ_room hn h3
    refine .inl ⟨f + i, by omega, hr, ?_, spl_first ht hr (by unfold mtB; rw [occ_eq hr]; exact h3) (d := i) (by omega) (fun j hj1 hj2 => ?_)⟩
    · unfold cutB Lib.cut
      rw [drop_data, h1, if_pos (by omega), ext_data, drop_data]
      simp only [Int.toNat_natCast, List.drop_drop, Prod.mk.injEq, and_true]
      refine ⟨?_, ?_⟩
      · rw [show f + i - f = i by omega]
      · rw [len_data, Nat.add_assoc]
    · have := h4 (j - f) (by omega)
      rw [ho, show f + (j - f) = j by omega] at this
      unfold mtB
      rw [occ_eq (by omega)]
      exact this

def nlB : ByteArray := ⟨#[10]⟩
theorem mt_nl {s : ByteArray} {k : Nat} (h : k < s.size) : mtB s nlB k = decide (bt s k = 10) := by
  unfold mtB
  have hs : nlB.size = 1 := rfl
  have hl : k < s.data.toList.length := by rw [len_data]; exact h
  rw [ByteArray.toList_eq, ByteArray.toList_eq, ext_data, hs, show k + 1 - k = 1 by omega, List.drop_eq_getElem_cons hl]
  have e : bt s k = ((s.data.toList[k]'hl).toNat : Int) := by
    rw [← get_bt s k h, Array.getElem_toList]
    rfl
  rw [e]
  show (([s.data.toList[k]'hl] : List UInt8) == [10]) = _
  generalize s.data.toList[k]'hl = b
  rw [Bool.eq_iff_iff, beq_iff_eq, decide_eq_true_eq]
  constructor
  · intro q
    simp only [List.cons.injEq, and_true] at q
    subst q; rfl
  · intro q
    have : b.toNat = (10 : UInt8).toNat := by
      have : (10 : UInt8).toNat = 10 := rfl
      omega
    rw [UInt8.toNat_inj.mp this]
theorem spl_lines (s : ByteArray) : ∀ k, k ≤ s.size → spl s nlB 0 0 = lnO s k ++ spl s nlB k (lnF s k)
  | 0, _ => rfl
  | k + 1, h => by
    rw [spl_lines s k (by omega)]
    have hs : nlB.size = 1 := rfl
    have hm := mt_nl (s := s) (k := k) (by omega)
    by_cases hb : bt s k = 10
    · obtain ⟨e1, e2⟩ := lnO_yes hb
      rw [e1, e2, spl_yes (by rw [hs]; exact Nat.le_refl _) (by rw [hs]; omega) (by rw [hm]; exact decide_eq_true hb), hs, List.append_assoc]
      rfl
    · obtain ⟨e1, e2⟩ := lnO_no hb
      rw [e1, e2, spl_no (by rw [hs]; exact Nat.le_refl _) (by rw [hs]; omega) (by rw [hm]; exact decide_eq_false hb)]
theorem spl_nl (s : ByteArray) : spl s nlB 0 0 = lnO s s.size ++ [s.extract (lnF s s.size) s.size] := by
  rw [spl_lines s s.size (Nat.le_refl _), spl_end (by have : nlB.size = 1 := rfl; omega)]
/-- The text without a last newline. -/
def trimB (s : ByteArray) : ByteArray := ⟨(Lib.trimSuffix s.data.toList [10]).toArray⟩
theorem last_byte {s : ByteArray} (h : 0 < s.size) : Lib.hasSuffix s.data.toList [10] = decide (bt s (s.size - 1) = 10) := by
  have hl : s.size - 1 < s.data.toList.length := by rw [len_data]; omega
  have e : bt s (s.size - 1) = ((s.data.toList[s.size - 1]'hl).toNat : Int) := by
    rw [← get_bt s (s.size - 1) (by omega), Array.getElem_toList]
    rfl
  have hsp : s.data.toList = s.data.toList.take (s.size - 1) ++ [s.data.toList[s.size - 1]'hl] := by
    have h1 := List.take_append_drop (s.size - 1) s.data.toList
    rw [List.drop_eq_getElem_cons hl, List.drop_eq_nil_of_le (by rw [len_data]; omega)] at h1
    exact h1.symm
  rw [e]
  unfold Lib.hasSuffix
  rw [Bool.eq_iff_iff, List.isSuffixOf_iff_suffix, decide_eq_true_eq]
  generalize s.data.toList[s.size - 1]'hl = b at *
  constructor
  · rintro ⟨r, hr⟩
    have h2 := congrArg List.getLast? (hr.trans hsp)
    simp at h2
    subst h2; rfl
  · intro q
    have : b.toNat = (10 : UInt8).toNat := by
      have : (10 : UInt8).toNat = 10 := rfl
      omega
    rw [UInt8.toNat_inj.mp this] at hsp
    exact ⟨_, hsp.symm⟩
theorem trim_yes {s : ByteArray} (h : 0 < s.size) (hb : bt s (s.size - 1) = 10) : trimB s = s.extract 0 (s.size - 1) := by
  unfold trimB Lib.trimSuffix
  rw [last_byte h, if_pos (decide_eq_true hb)]
  refine mk_ext ?_
  rw [len_data]
  rfl
theorem trim_no {s : ByteArray} (h : 0 < s.size) (hb : bt s (s.size - 1) ≠ 10) : trimB s = s := by
  unfold trimB Lib.trimSuffix
  rw [last_byte h, if_neg (by simp [hb])]
theorem trim_size (s : ByteArray) : (trimB s).size ≤ s.size := by
  have : (trimB s).size = (Lib.trimSuffix s.data.toList [10]).length := by unfold trimB; rw [← len_data]
  rw [this, ← len_data s]
  unfold Lib.trimSuffix
  split
  · rw [List.length_take]; omega
  · exact Nat.le_refl _
theorem ln_part {s : ByteArray} {n : Nat} (hn : n ≤ s.size) : ∀ k, k ≤ n → lnO (s.extract 0 n) k = lnO s k ∧ lnF (s.extract 0 n) k = lnF s k
  | 0, _ => ⟨rfl, rfl⟩
  | k + 1, h => by
    obtain ⟨h1, h2⟩ := ln_part hn k (by omega)
    have hb : bt (s.extract 0 n) k = bt s k := by rw [bt_ext s 0 n k hn (by omega), Nat.zero_add]
    by_cases q : bt s k = 10
    · obtain ⟨e1, e2⟩ := lnO_yes q
      obtain ⟨d1, d2⟩ := lnO_yes (hb.trans q)
      refine ⟨?_, by rw [d2, e2]⟩
      rw [d1, e1, h1, h2]
      have hf := lnF_le s k
      rw [ByteArray.extract_extract, show 0 + lnF s k = lnF s k by omega, show min (0 + k) n = k by omega]
    · obtain ⟨e1, e2⟩ := lnO_no q
      obtain ⟨d1, d2⟩ := lnO_no (fun g => q (hb.symm.trans g))
      exact ⟨by rw [d1, e1, h1], by rw [d2, e2, h2]⟩
theorem lines_trim {s : ByteArray} (h : 0 < s.size) (h3 : s.size ≤ 3000) : spl (trimB s) nlB 0 0 = linesP s ∧ (linesP s).length ≤ 3000 := by
  obtain ⟨n, hn⟩ : ∃ n, s.size = n + 1 := ⟨s.size - 1, by omega⟩
  have hl := lnO_len s
  unfold linesP
  rw [if_neg (by omega)]
  by_cases hb : bt s (s.size - 1) = 10
  · rw [trim_yes h hb, spl_nl]
    have hz : (s.extract 0 (s.size - 1)).size = n := by rw [size_ext s 0 _ (by omega)]; omega
    rw [hn, Nat.add_sub_cancel] at hb
    obtain ⟨e1, e2⟩ := lnO_yes hb
    obtain ⟨p1, p2⟩ := ln_part (s := s) (n := s.size - 1) (by omega) n (by omega)
    rw [hz, p1, p2, hn, e2, if_neg (by omega), e1, ByteArray.extract_extract]
    have hf := lnF_le s n
    refine ⟨by rw [show 0 + lnF s n = lnF s n by omega, show min (0 + n) (n + 1 - 1) = n by omega], ?_⟩
    have := hl n
    rw [List.length_append, List.length_singleton]
    omega
  · rw [trim_no h hb, spl_nl]
    rw [hn, Nat.add_sub_cancel] at hb
    obtain ⟨e1, e2⟩ := lnO_no hb
    have hf := lnF_le s n
    rw [hn, e2, if_pos (by omega), e1]
    refine ⟨rfl, ?_⟩
    have := hl n
    rw [List.length_append, List.length_singleton]
    omega
theorem lines_nil {s : ByteArray} (h : s.size = 0) : linesP s = [] := by
  unfold linesP
  rw [h]
  rfl
theorem fields_nil {s : ByteArray} (h : s.size = 0) : fieldsP s = [] := by
  unfold fieldsP
  have e2 : endOf spB s 0 = 0 := endOf_stop (fun q => by omega)
  rw [if_neg (by omega), fld_no (by rw [e2]; omega)]
  rfl
end Go.Proofs.YthaedmldlenhgaaGreatDoor.RecPure

namespace Go.Proofs.YthaedmldlenhgaaGreatDoor.Strs
open Go Go.RowKit Go.PlainAid
open Go.Proofs.YthaedmldlenhgaaGreatDoor.DecPure Go.Proofs.YthaedmldlenhgaaGreatDoor.ReadPure Go.Proofs.YthaedmldlenhgaaGreatDoor.TextPure Go.Proofs.YthaedmldlenhgaaGreatDoor.CellPure Go.Proofs.YthaedmldlenhgaaGreatDoor.SubPure Go.Proofs.YthaedmldlenhgaaGreatDoor.RecPure
set_option linter.unusedVariables false

def pctB : ByteArray := ⟨#[37]⟩
theorem bt_get37 {s : ByteArray} {k : Nat} : s.data.toList[k]? = some 37 ↔ k < s.size ∧ bt s k = 37 := by
  constructor
  · intro h
    have hk : k < s.size := by
      have := (List.getElem?_eq_some_iff.1 h).1
      rwa [len_data] at this
    refine ⟨hk, ?_⟩
    unfold bt
    rw [dif_pos hk]
    have := (List.getElem?_eq_some_iff.1 h).2
    rw [Array.getElem_toList] at this
    show (s.data[k].toNat : Int) = 37
    rw [this]; rfl
  · rintro ⟨hk, h⟩
    unfold bt at h
    rw [dif_pos hk] at h
    rw [List.getElem?_eq_getElem (by rw [len_data]; exact hk), Array.getElem_toList]
    congr 1
    apply UInt8.toNat_inj.1
    show s.data[k].toNat = 37
    have h' : (s.data[k].toNat : Int) = 37 := h
    omega
theorem pct_cut (x : ByteArray) :
    (∃ k, k < x.size ∧ bt x k = 37 ∧ (∀ j, j < k → bt x j ≠ 37) ∧ cutB x pctB = ((x.extract 0 k).data.toList, (x.extract (k + 1) x.size).data.toList, true)) ∨
    ((∀ j, j < x.size → bt x j ≠ 37) ∧ cutB x pctB = (x.data.toList, [], false)) := by
  have e : pctB.data.toList = [37] := rfl
  have e1 := Lib.index_one x.data.toList 37
  have hge := Lib.indexByte_ge x.data.toList 37
  by_cases hm : Lib.indexByte x.data.toList 37 = -1
  · refine .inr ⟨fun j hj hb => Lib.indexByte_none hm j (bt_get37.2 ⟨hj, hb⟩), ?_⟩
    unfold cutB Lib.cut
    rw [e, e1, hm]
    rfl
  · obtain ⟨k, hk⟩ : ∃ k : Nat, Lib.indexByte x.data.toList 37 = k := ⟨(Lib.indexByte x.data.toList 37).toNat, by omega⟩
    obtain ⟨h1, h2⟩ := Lib.indexByte_some hk
    obtain ⟨h3, h4⟩ := bt_get37.1 h1
    refine .inl ⟨k, h3, h4, fun j hj hb => h2 j hj (bt_get37.2 ⟨by omega, hb⟩), ?_⟩
    unfold cutB Lib.cut
    rw [e, e1, hk, if_pos (by omega), ext_data, drop_data]
    simp

/-- A conversion's digits and letter. -/
def prtE (s : ByteArray) (a : Nat) (l : Bool) : Option (It × Nat) :=
  if 2 < endOf dgB s 0 ∨ endOf dgB s 0 = s.size ∨ ¬ (bt s (endOf dgB s 0) = 100 ∨ bt s (endOf dgB s 0) = 115) then none
  else some (⟨bt s (endOf dgB s 0), ⟨#[]⟩, valF s 0 (endOf dgB s 0), l⟩, a + endOf dgB s 0 + 1)
/-- What follows a % and how far it goes. -/
def prtP (r : ByteArray) : Option (It × Nat) :=
  if 0 < r.size ∧ bt r 0 = 37 then some (⟨0, pctB, 0, false⟩, 1)
  else if 0 < r.size ∧ bt r 0 = 45 then prtE (r.extract 1 r.size) 1 true else prtE r 0 false

theorem endOf_eq {s : ByteArray} {z : Nat} (hz : z ≤ s.size) (h : ∀ i, i < z → dgB (bt s i) = true) (h2 : z < s.size → dgB (bt s z) = false) : endOf dgB s 0 = z := by
  have h3 := endOf_le dgB s 0 (Nat.zero_le _)
  rcases Nat.lt_trichotomy (endOf dgB s 0) z with g | g | g
  · have := endOf_out (p := dgB) (s := s) (a := 0) (by omega)
    rw [h _ g] at this; cases this
  · exact g
  · have := (endOf_at (p := dgB) (s := s) (Nat.zero_le z) g).2
    rw [h2 (by omega)] at this; cases this
def PrtE (j a : Nat) (p : Plc) : Option (It × Nat) → Prop
  | none => p.kind = 0
  | some (x, n) => x.kind ≠ 0 ∧ x.kind ≠ 37 ∧ x.txt = ⟨#[]⟩ ∧ a < n ∧ p = ⟨x.kind, x.wide, x.left, (j : Int) + n⟩
def PrtP (j : Nat) (p : Plc) : Option (It × Nat) → Prop
  | none => p.kind = 0
  | some (x, n) => 0 < n ∧ ((x = ⟨0, pctB, 0, false⟩ ∧ p.kind = 37 ∧ p.stop = (j : Int) + 1 + n) ∨ (x.kind ≠ 0 ∧ x.kind ≠ 37 ∧ x.txt = ⟨#[]⟩ ∧ p = ⟨x.kind, x.wide, x.left, (j : Int) + 1 + n⟩))
theorem prt_lift {j a : Nat} {p : Plc} : ∀ {q : Option (It × Nat)}, PrtE (j + 1) a p q → PrtP j p q
  | none, h => h
  | some (x, n), ⟨p1, p2, p3, p4, p5⟩ => ⟨by omega, .inr ⟨p1, p2, p3, by rw [p5]; simp⟩⟩
theorem prt_plE {f : ByteArray} {k a j : Nat} (l : Bool) (hk : k ≤ f.size) (hj : k = j + a) : PrtE j a (plE f (plD f 2 k 0) l) (prtE (f.extract k f.size) a l) := by
  have hsz : (f.extract k f.size).size = f.size - k := size_ext f k _ (Nat.le_refl _)
  have hbt : ∀ i, i < f.size - k → bt (f.extract k f.size) i = bt f (k + i) := fun i hi => bt_ext f k _ i (Nat.le_refl _) hi
  have hle := endOf_le dgB (f.extract k f.size) 0 (Nat.zero_le _)
  have hat : ∀ i, i < endOf dgB (f.extract k f.size) 0 → dgB (bt f (k + i)) = true := fun i hi => by
    have := (endOf_at (p := dgB) (Nat.zero_le i) hi).2
    rwa [hbt i (by omega)] at this
  have hout : endOf dgB (f.extract k f.size) 0 < f.size - k → dgB (bt f (k + endOf dgB (f.extract k f.size) 0)) = false := fun h => by
    have := endOf_out (p := dgB) (s := f.extract k f.size) (a := 0) (by omega)
    rwa [hbt _ h] at this
  unfold prtE
  rw [hsz] at hle ⊢
  have hval : ∀ n, n ≤ f.size - k → valF (f.extract k f.size) 0 n = valF f k n := fun n hn => valF_ext f k f.size (Nat.le_refl _) n hn
  rw [hval _ hle]
  generalize endOf dgB (f.extract k f.size) 0 = z at *
  have two : 2 < z → (plE f (plD f 2 k 0) l).kind = 0 := fun h => by
    have g0 : dgB (bt f k) = true := hat 0 (by omega)
    rw [plD_on (m := 1) (by omega) g0, plD_on (m := 0) (by omega) (hat 1 (by omega)), plD_stop (.inl rfl)]
    unfold plE
    rw [if_neg]
    rintro ⟨_, h2⟩
    have := dgB_yes (hat 2 (by omega))
    simp only at h2
    rw [show k + 1 + 1 = k + 2 by omega] at h2
    omega
  have val : z ≤ 2 → plD f 2 k 0 = (k + z, valF f k z) := fun h => by
    have hs : ∀ m, z < f.size - k ∨ z = f.size - k → ∀ v, plD f m (k + z) v = (k + z, v) := fun m hm v => plD_stop (by
      rcases hm with hm | hm
      · exact .inr (.inr (hout hm))
      · exact .inr (.inl (by omega)))
    have hzz : z < f.size - k ∨ z = f.size - k := by omega
    match z, hat, h, hs, hzz with
    | 0, _, _, hs, hzz => exact hs 2 hzz 0
    | 1, hat, _, hs, hzz =>
      have g0 : dgB (bt f k) = true := hat 0 (by omega)
      rw [plD_on (m := 1) (by omega) g0, hs 1 hzz]
      simp [valF]
    | 2, hat, _, hs, hzz =>
      have g0 : dgB (bt f k) = true := hat 0 (by omega)
      rw [plD_on (m := 1) (by omega) g0, plD_on (m := 0) (by omega) (hat 1 (by omega)), show k + 1 + 1 = k + 2 by omega, hs 0 hzz]
      simp [valF]
      omega
  by_cases h2 : 2 < z
  · rw [if_pos (.inl h2)]
    exact two h2
  rw [val (by omega)]
  by_cases he : z = f.size - k
  · rw [if_pos (.inr (.inl he))]
    show (plE f _ l).kind = 0
    unfold plE
    rw [if_neg (by rintro ⟨h, _⟩; simp only at h; omega)]
  rw [hbt z (by omega)]
  by_cases hb : bt f (k + z) = 100 ∨ bt f (k + z) = 115
  · rw [if_neg (by rintro (h | h | h); exact h2 h; exact he h; exact h hb)]
    refine ⟨by show bt f (k + z) ≠ 0; omega, by show bt f (k + z) ≠ 37; omega, rfl, by omega, ?_⟩
    unfold plE
    rw [if_pos ⟨by show k + z < f.size; omega, hb⟩]
    simp only [Plc.mk.injEq, true_and]
    omega
  · rw [if_pos (.inr (.inr hb))]
    show (plE f _ l).kind = 0
    unfold plE
    rw [if_neg (by rintro ⟨_, h⟩; exact hb h)]
theorem ext_ext {f : ByteArray} {a b : Nat} (h : a + b ≤ f.size) : (f.extract a f.size).extract b (f.extract a f.size).size = f.extract (a + b) f.size := by
  rw [size_ext f a _ (Nat.le_refl _)]
  apply ByteArray.ext
  rw [ByteArray.data_extract, ByteArray.data_extract, ByteArray.data_extract, Array.extract_extract]
  congr 1
  omega
theorem prt_plc {f : ByteArray} {j : Nat} (hj : j < f.size) : PrtP j (plc f j) (prtP (f.extract (j + 1) f.size)) := by
  have hsz : (f.extract (j + 1) f.size).size = f.size - (j + 1) := size_ext f _ _ (Nat.le_refl _)
  have hb0 : 0 < f.size - (j + 1) → bt (f.extract (j + 1) f.size) 0 = bt f (j + 1) := fun h => bt_ext f _ _ 0 (Nat.le_refl _) h
  have hB := prt_lift (prt_plE (f := f) (k := j + 1) (a := 0) (j := j + 1) false (by omega) (by omega))
  have hA : 0 < f.size - (j + 1) → PrtP j (plE f (plD f 2 (j + 2) 0) true) (prtE ((f.extract (j + 1) f.size).extract 1 (f.size - (j + 1))) 1 true) := fun h => by
    have := prt_lift (prt_plE (f := f) (k := j + 2) (a := 1) (j := j + 1) true (by omega) (by omega))
    have e := ext_ext (f := f) (a := j + 1) (b := 1) (by omega)
    rw [hsz] at e
    rw [e]
    exact this
  unfold prtP plc
  rw [hsz]
  generalize prtE (f.extract (j + 1) f.size) 0 false = qB at *
  generalize prtE ((f.extract (j + 1) f.size).extract 1 (f.size - (j + 1))) 1 true = qA at *
  generalize plE f (plD f 2 (j + 1) 0) false = pB at *
  generalize plE f (plD f 2 (j + 2) 0) true = pA at *
  by_cases h0 : 0 < f.size - (j + 1)
  · rw [hb0 h0]
    have h1 : j + 1 < f.size := by omega
    by_cases h37 : bt f (j + 1) = 37
    · rw [if_pos ⟨h1, h37⟩, if_pos ⟨h0, h37⟩]
      exact ⟨by omega, .inl ⟨rfl, rfl, rfl⟩⟩
    · rw [if_neg (c := j + 1 < f.size ∧ bt f (j + 1) = 37) (fun h => h37 h.2), if_neg (c := 0 < f.size - (j + 1) ∧ bt f (j + 1) = 37) (fun h => h37 h.2)]
      by_cases h45 : bt f (j + 1) = 45
      · rw [if_pos ⟨h1, h45⟩, if_pos ⟨h0, h45⟩]
        exact hA h0
      · rw [if_neg (c := j + 1 < f.size ∧ bt f (j + 1) = 45) (fun h => h45 h.2), if_neg (c := 0 < f.size - (j + 1) ∧ bt f (j + 1) = 45) (fun h => h45 h.2)]
        exact hB
  · have q1 : ¬ (0 < f.size - (j + 1) ∧ bt (f.extract (j + 1) f.size) 0 = 37) := fun h => h0 h.1
    have q2 : ¬ (0 < f.size - (j + 1) ∧ bt (f.extract (j + 1) f.size) 0 = 45) := fun h => h0 h.1
    have q3 : ¬ (j + 1 < f.size ∧ bt f (j + 1) = 37) := fun h => by omega
    have q4 : ¬ (j + 1 < f.size ∧ bt f (j + 1) = 45) := fun h => by omega
    rw [if_neg q3, if_neg q4, if_neg q1, if_neg q2]
    exact hB

/-- Two lists of pieces that give the same. -/
def Sm (a b : List It) : Prop := nCv a = nCv b ∧ kindL a = kindL b ∧ ∀ l, outP a l = outP b l
theorem Sm.refl (a : List It) : Sm a a := ⟨rfl, rfl, fun _ => rfl⟩
theorem outP_add : ∀ (a b : List It) (l : List Ce), outP (a ++ b) l = outP a l ++ outP b (l.drop (nCv a))
  | [], b, l => by
    show outP b l = ⟨#[]⟩ ++ outP b l
    apply ByteArray.ext
    simp [ByteArray.data_append]
  | y :: a, b, l => by
    rw [List.cons_append, outP, outP_add a b, outP, nCv]
    by_cases hk : y.kind = 0
    · rw [if_pos hk, if_pos hk, Nat.zero_add]
      apply ByteArray.ext
      simp [ByteArray.data_append]
    · rw [if_neg hk, if_neg hk, List.drop_drop]
      apply ByteArray.ext
      simp [ByteArray.data_append]
theorem Sm.app {a b c d : List It} (h : Sm a b) (g : Sm c d) : Sm (a ++ c) (b ++ d) := by
  refine ⟨by rw [nCv_app, nCv_app, h.1, g.1], by rw [kindL_app, kindL_app, h.2.1, g.2.1], fun l => ?_⟩
  rw [outP_add, outP_add, h.2.2, g.2.2, h.1]
/-- Bytes that stand for themselves, one by one and together. -/
def litL (f : ByteArray) (i : Nat) : Nat → List It
  | 0 => []
  | n + 1 => ⟨0, f.extract i (i + 1), 0, false⟩ :: litL f (i + 1) n
theorem litL_out (f : ByteArray) (l : List Ce) : ∀ (n i : Nat), i + n ≤ f.size → outP (litL f i n) l = f.extract i (i + n)
  | 0, i, h => by
    show (⟨#[]⟩ : ByteArray) = _
    rw [Nat.add_zero]
    apply ByteArray.ext
    rw [ByteArray.data_extract]
    simp
    omega
  | n + 1, i, h => by
    show pieceP ⟨0, f.extract i (i + 1), 0, false⟩ _ ++ outP (litL f (i + 1) n) l = _
    rw [litL_out f l n (i + 1) (by omega)]
    show f.extract i (i + 1) ++ f.extract (i + 1) (i + 1 + n) = _
    apply ByteArray.ext
    rw [ByteArray.data_append, ByteArray.data_extract, ByteArray.data_extract, ByteArray.data_extract, Array.extract_append_extract]
    congr 1
    · omega
    · omega
theorem litL_cv (f : ByteArray) : ∀ (n i : Nat), nCv (litL f i n) = 0 ∧ kindL (litL f i n) = []
  | 0, i => ⟨rfl, rfl⟩
  | n + 1, i => by
    have := litL_cv f n (i + 1)
    refine ⟨?_, ?_⟩
    · show (if (0 : Int) = 0 then 0 else 1) + nCv (litL f (i + 1) n) = 0
      rw [this.1, if_pos rfl]
    · show (if (0 : Int) = 0 then kindL (litL f (i + 1) n) else _) = []
      rw [if_pos rfl, this.2]
theorem litL_sm {f : ByteArray} {i n : Nat} (h : i + n ≤ f.size) : Sm [⟨0, f.extract i (i + n), 0, false⟩] (litL f i n) := by
  refine ⟨(litL_cv f n i).1.symm, (litL_cv f n i).2.symm, fun l => ?_⟩
  rw [litL_out f l n i h]
  show f.extract i (i + n) ++ ⟨#[]⟩ = _
  apply ByteArray.ext
  simp [ByteArray.data_append]
theorem its_lits {f : ByteArray} : ∀ {n i : Nat}, i + n ≤ f.size → (∀ j, i ≤ j → j < i + n → bt f j ≠ 37) → its f i = (its f (i + n)).map (litL f i n ++ ·)
  | 0, i, _, _ => by simp [litL]
  | n + 1, i, h, hn => by
    rw [its_lit (by omega) (hn i (Nat.le_refl _) (by omega)), its_lits (n := n) (i := i + 1) (by omega) (fun j h1 h2 => hn j (by omega) (by omega)), Option.map_map, show i + 1 + n = i + (n + 1) by omega]
    rfl

/-- What the loop over a format knows: its pieces so far are P, from place k on it goes on. -/
def Sofar (f : ByteArray) (P : List It) (k : Nat) : Prop := k ≤ f.size ∧ ∃ pre, Sm P pre ∧ its f 0 = (its f k).map (pre ++ ·)
theorem sofar_nil (f : ByteArray) : Sofar f [] 0 := ⟨Nat.zero_le _, [], Sm.refl _, by simp⟩
theorem sofar_lits {f : ByteArray} {P : List It} {k n : Nat} (h : Sofar f P k) (hn : k + n ≤ f.size) (hb : ∀ j, j < n → bt (f.extract k f.size) j ≠ 37) : Sofar f (P ++ [⟨0, f.extract k (k + n), 0, false⟩]) (k + n) := by
  obtain ⟨_, pre, h1, h2⟩ := h
  refine ⟨hn, pre ++ litL f k n, h1.app (litL_sm hn), ?_⟩
  rw [h2, its_lits hn (fun j hj1 hj2 => by
    have := hb (j - k) (by omega)
    rwa [bt_ext f k _ (j - k) (Nat.le_refl _) (by omega), show k + (j - k) = j by omega] at this), Option.map_map]
  congr 1
  funext r
  simp
theorem sofar_end {f : ByteArray} {P : List It} (h : Sofar f P f.size) : ∃ L, its f 0 = some L ∧ Sm P L := by
  obtain ⟨_, pre, h1, h2⟩ := h
  refine ⟨pre, ?_, h1⟩
  rw [h2, its_end (Nat.lt_irrefl _)]
  simp
theorem sofar_bad {f : ByteArray} {P : List It} {k : Nat} (h : Sofar f P k) (hk : k < f.size) (hb : bt f k = 37) (hp : prtP (f.extract (k + 1) f.size) = none) : its f 0 = none := by
  obtain ⟨_, pre, h1, h2⟩ := h
  have := prt_plc hk
  rw [hp] at this
  rw [h2, its_bad hk hb this]
  rfl
theorem sofar_part {f : ByteArray} {P : List It} {k n : Nat} {x : It} (h : Sofar f P k) (hk : k < f.size) (hb : bt f k = 37) (hp : prtP (f.extract (k + 1) f.size) = some (x, n)) : Sofar f (P ++ [x]) (k + 1 + n) ∧ 0 < n := by
  obtain ⟨_, pre, h1, h2⟩ := h
  have := prt_plc hk
  rw [hp] at this
  have hf := plc_fact hk
  obtain ⟨hn, ⟨rfl, h3, h4⟩ | ⟨h3, h4, h5, h6⟩⟩ := this
  · have hst : (plc f k).stop.toNat = k + 1 + n := by omega
    refine ⟨⟨by omega, pre ++ [⟨0, pctB, 0, false⟩], h1.app (Sm.refl _), ?_⟩, hn⟩
    rw [h2, its_pct hk hb h3, hst, Option.map_map]
    congr 1
    funext r
    simp [pctB]
  · have hst : (plc f k).stop.toNat = k + 1 + n := by rw [h6]; show ((k : Int) + 1 + n).toNat = _; omega
    have hx : x = ⟨(plc f k).kind, ⟨#[]⟩, (plc f k).wide, (plc f k).left⟩ := by rw [h6, ← h5]
    have hs2 : (plc f k).stop ≤ f.size := by
      rcases hf with h0 | ⟨_, _, h0, _⟩
      · rw [h6] at h0; exact absurd h0 h3
      · exact h0
    refine ⟨⟨by rw [h6] at hs2; simp only at hs2; omega, pre ++ [x], h1.app (Sm.refl _), ?_⟩, hn⟩
    rw [h2, its_cv hk hb (by rw [h6]; exact h3) (by rw [h6]; exact h4), hst, Option.map_map, ← hx]
    congr 1
    funext r
    simp
/-- What a piece is. -/
def ItOk (x : It) : Prop := (x.kind = 0 ∨ ((x.kind = 100 ∨ x.kind = 115) ∧ x.txt = ⟨#[]⟩)) ∧ 0 ≤ x.wide ∧ x.wide ≤ 99
theorem prtE_ok {s : ByteArray} {a n : Nat} {l : Bool} {x : It} (h : prtE s a l = some (x, n)) : ItOk x ∧ n = a + endOf dgB s 0 + 1 := by
  unfold prtE at h
  split at h
  · cases h
  · rename_i q
    simp only [Option.some.injEq, Prod.mk.injEq] at h
    obtain ⟨rfl, rfl⟩ := h
    have hd : Digs s 0 (endOf dgB s 0) := by have := digs_end s 0; rwa [Nat.sub_zero] at this
    have hz : endOf dgB s 0 ≤ 2 := by omega
    refine ⟨⟨.inr ⟨?_, rfl⟩, valF_nn hd, ?_⟩, rfl⟩
    · show bt s _ = 100 ∨ bt s _ = 115
      by_cases hb : bt s (endOf dgB s 0) = 100 ∨ bt s (endOf dgB s 0) = 115
      · exact hb
      · exact absurd (.inr (.inr hb)) q
    · show valF s 0 (endOf dgB s 0) ≤ 99
      match endOf dgB s 0, hd, hz with
      | 0, _, _ => simp [valF]
      | 1, hd, _ => have := hd 0 (by omega); simp only [valF, Nat.zero_add] at *; omega
      | 2, hd, _ => have h0 := hd 0 (by omega); have h1 := hd 1 (by omega); simp only [valF, Nat.zero_add, Nat.add_zero] at *; omega
theorem prtP_ok {r : ByteArray} {x : It} {n : Nat} (h : prtP r = some (x, n)) : ItOk x := by
  unfold prtP at h
  split at h
  · simp only [Option.some.injEq, Prod.mk.injEq] at h
    obtain ⟨rfl, rfl⟩ := h
    exact ⟨.inl rfl, Int.le_refl _, by show (0 : Int) ≤ 99; omega⟩
  · split at h
    · exact (prtE_ok h).1
    · exact (prtE_ok h).1
end Go.Proofs.YthaedmldlenhgaaGreatDoor.Strs
