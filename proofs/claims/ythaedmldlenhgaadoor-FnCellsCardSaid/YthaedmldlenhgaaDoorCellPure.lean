/-
  Values, in plain numbers and texts: which are valid, what is taken from them, how they are compared and reckoned with.
-/
import Derived.Test.YthaedmldlenhgaaDoorReadPure
import Derived.Test.YthaedmldlenhgaaDoorFmtPure
namespace Go.Proofs.YthaedmldlenhgaaDoor.CellPure
open Go Go.RowKit
open Go.Proofs.YthaedmldlenhgaaDoor.DecPure Go.Proofs.YthaedmldlenhgaaDoor.ReadPure Go.Proofs.YthaedmldlenhgaaDoor.TextPure
set_option linter.unusedVariables false

def nilB (s : ByteArray) : Bool := s.toList.isEmpty
theorem nilB_size (s : ByteArray) : nilB s = decide (s.size = 0) := by
  unfold nilB
  rw [ByteArray.toList_eq, Bool.eq_iff_iff, List.isEmpty_iff_length_eq_zero]
  simp only [decide_eq_true_eq]
  rfl
theorem nilB_yes {s : ByteArray} (h : nilB s = true) : s = ⟨#[]⟩ := by
  rw [nilB_size] at h
  have h0 : s.size = 0 := by simpa using h
  cases s with | mk d => cases d with | mk l => cases l with
    | nil => rfl
    | cons a x => simp [ByteArray.size] at h0
theorem nilB_no {s : ByteArray} (h : nilB s = false) : s ≠ ⟨#[]⟩ := by
  rintro rfl
  rw [nilB_size] at h
  exact absurd h (by decide)

/-- Is it a value? -/
def cOk (t n : Int) (s : ByteArray) : Bool :=
  decide (s.size ≤ 500) && (if t = 0 then nilB s && (n == 0) else if t = 1 then nilB s && dOk n else if t = 2 then n == 0 else if t = 3 then looksB s && (n == rdN s) else false)
def numOf (t n : Int) (s : ByteArray) : Int := if t = 2 then rdN s else n
theorem numOf_2 {n : Int} {s : ByteArray} : numOf 2 n s = rdN s := if_pos rfl
theorem numOf_n {t n : Int} {s : ByteArray} (h : t ≠ 2) : numOf t n s = n := if_neg h
def cNum (t n : Int) (s : ByteArray) : Int := if cOk t n s = true then numOf t n s else 0
def cTxt (t n : Int) (s : ByteArray) : ByteArray := if t = 1 then dtB n else s
def cStr (t n : Int) (s : ByteArray) : ByteArray := if cOk t n s = true then cTxt t n s else ⟨#[]⟩
def cTru (t n : Int) (s : ByteArray) : Bool := if cOk t n s = true then (if t = 2 then !(nilB s) else !(n == 0)) else false

theorem cNum_yes {t n : Int} {s : ByteArray} (h : cOk t n s = true) : cNum t n s = numOf t n s := if_pos h
theorem cNum_no {t n : Int} {s : ByteArray} (h : cOk t n s = false) : cNum t n s = 0 := by unfold cNum; rw [h, if_neg (by simp)]
theorem cTru_2 {n : Int} {s : ByteArray} (h : cOk 2 n s = true) : cTru 2 n s = !(nilB s) := by unfold cTru; rw [if_pos h, if_pos rfl]
theorem cTru_n {t n : Int} {s : ByteArray} (g : t ≠ 2) (h : cOk t n s = true) : cTru t n s = !(n == 0) := by unfold cTru; rw [if_pos h, if_neg g]
theorem cTru_no {t n : Int} {s : ByteArray} (h : cOk t n s = false) : cTru t n s = false := by unfold cTru; rw [h, if_neg (by simp)]
theorem cOk_big {t n : Int} {s : ByteArray} (h : 500 < s.size) : cOk t n s = false := by
  unfold cOk; rw [decide_eq_false (by omega), Bool.false_and]
theorem cOk_0 {n : Int} {s : ByteArray} (h : s.size ≤ 500) : cOk 0 n s = (nilB s && (n == 0)) := by
  unfold cOk; rw [decide_eq_true h, Bool.true_and, if_pos rfl]
theorem cOk_1 {n : Int} {s : ByteArray} (h : s.size ≤ 500) : cOk 1 n s = (nilB s && dOk n) := by
  unfold cOk; rw [decide_eq_true h, Bool.true_and, if_neg (by omega), if_pos rfl]
theorem cOk_2 {n : Int} {s : ByteArray} (h : s.size ≤ 500) : cOk 2 n s = (n == 0) := by
  unfold cOk; rw [decide_eq_true h, Bool.true_and, if_neg (by omega), if_neg (by omega), if_pos rfl]
theorem cOk_3 {n : Int} {s : ByteArray} (h : s.size ≤ 500) : cOk 3 n s = (looksB s && (n == rdN s)) := by
  unfold cOk; rw [decide_eq_true h, Bool.true_and, if_neg (by omega), if_neg (by omega), if_neg (by omega), if_pos rfl]
theorem cOk_no {t n : Int} {s : ByteArray} (h0 : t ≠ 0) (h1 : t ≠ 1) (h2 : t ≠ 2) (h3 : t ≠ 3) : cOk t n s = false := by
  unfold cOk; rw [if_neg h0, if_neg h1, if_neg h2, if_neg h3, Bool.and_false]
theorem cOk_size {t n : Int} {s : ByteArray} (h : cOk t n s = true) : s.size ≤ 500 := by
  rcases Nat.lt_or_ge 500 s.size with g | g
  · rw [cOk_big g] at h; cases h
  · exact g

/-- The value of a text from the input. -/
def fT (s : ByteArray) : Int := if 500 < s.size then 0 else if looksB s = true then 3 else 2
def fN (s : ByteArray) : Int := if 500 < s.size then 0 else if looksB s = true then rdN s else 0
def fS (s : ByteArray) : ByteArray := if 500 < s.size then ⟨#[]⟩ else s
theorem f_big {s : ByteArray} (h : 500 < s.size) : fT s = 0 ∧ fN s = 0 ∧ fS s = ⟨#[]⟩ := by simp [fT, fN, fS, h]
theorem f_num {s : ByteArray} (h : s.size ≤ 500) (g : looksB s = true) : fT s = 3 ∧ fN s = rdN s ∧ fS s = s := by
  have : ¬ 500 < s.size := by omega
  simp [fT, fN, fS, this, g]
theorem f_str {s : ByteArray} (h : s.size ≤ 500) (g : looksB s = false) : fT s = 2 ∧ fN s = 0 ∧ fS s = s := by
  have : ¬ 500 < s.size := by omega
  simp [fT, fN, fS, this, g]
theorem fS_size (s : ByteArray) : (fS s).size ≤ 500 := by
  unfold fS; split
  · decide
  · omega

/-- The valid value with these parts, if there is one. -/
def oT (t n : Int) (s : ByteArray) : Int := if t = 1 ∧ dOk n = true then 1 else if t = 2 ∧ s.size ≤ 500 then 2 else if t = 3 then fT s else 0
def oN (t n : Int) (s : ByteArray) : Int := if t = 1 ∧ dOk n = true then n else if t = 3 then fN s else 0
def oS (t n : Int) (s : ByteArray) : ByteArray := if t = 2 ∧ s.size ≤ 500 then s else if t = 3 then fS s else ⟨#[]⟩
theorem o_1 {n : Int} {s : ByteArray} (h : dOk n = true) : oT 1 n s = 1 ∧ oN 1 n s = n ∧ oS 1 n s = ⟨#[]⟩ := by simp [oT, oN, oS, h]
theorem o_2 {n : Int} {s : ByteArray} (h : s.size ≤ 500) : oT 2 n s = 2 ∧ oN 2 n s = 0 ∧ oS 2 n s = s := by simp [oT, oN, oS, h]
theorem o_3 {n : Int} {s : ByteArray} : oT 3 n s = fT s ∧ oN 3 n s = fN s ∧ oS 3 n s = fS s := by simp [oT, oN, oS]
theorem o_no {t n : Int} {s : ByteArray} (h1 : t = 1 → dOk n = false) (h2 : t = 2 → 500 < s.size) (h3 : t ≠ 3) : oT t n s = 0 ∧ oN t n s = 0 ∧ oS t n s = ⟨#[]⟩ := by
  have e1 : ¬ (t = 1 ∧ dOk n = true) := fun ⟨a, b⟩ => by rw [h1 a] at b; cases b
  have e2 : ¬ (t = 2 ∧ s.size ≤ 500) := fun ⟨a, b⟩ => by have := h2 a; omega
  simp only [oT, oN, oS, if_neg e1, if_neg e2, if_neg h3, and_self]
/-- A value is valid just where it is the one that its parts give. -/
theorem o_same (t n : Int) (s : ByteArray) : decide (t = oT t n s ∧ n = oN t n s ∧ s = oS t n s) = cOk t n s := by
  by_cases hz : 500 < s.size
  · rw [cOk_big hz]
    refine decide_eq_false fun ⟨h1, h2, h3⟩ => ?_
    have : (oS t n s).size ≤ 500 := by
      unfold oS; split
      · rename_i h; exact h.2
      · split
        · exact fS_size s
        · decide
    rw [← h3] at this
    omega
  have hz' : s.size ≤ 500 := by omega
  have hnil : (s = ⟨#[]⟩) ↔ nilB s = true := ⟨fun h => by subst h; rw [nilB_size]; decide, nilB_yes⟩
  by_cases h1 : t = 1
  · subst h1
    cases hd : dOk n with
    | true =>
      obtain ⟨e1, e2, e3⟩ := o_1 (s := s) hd
      rw [cOk_1 hz', e1, e2, e3, hd, Bool.and_true, Bool.eq_iff_iff]
      simp only [decide_eq_true_eq, true_and]
      exact hnil
    | false =>
      obtain ⟨e1, e2, e3⟩ := o_no (t := 1) (s := s) (fun _ => hd) (fun h => by omega) (by omega)
      rw [cOk_1 hz', hd, Bool.and_false, e1]
      exact decide_eq_false fun h => by omega
  by_cases h2 : t = 2
  · subst h2
    obtain ⟨e1, e2, e3⟩ := o_2 (n := n) hz'
    rw [cOk_2 hz', e1, e2, e3, Bool.eq_iff_iff]
    simp
  by_cases h3 : t = 3
  · subst h3
    obtain ⟨e1, e2, e3⟩ := o_3 (n := n) (s := s)
    rw [cOk_3 hz', e1, e2, e3]
    cases hl : looksB s with
    | true =>
      obtain ⟨f1, f2, f3⟩ := f_num hz' hl
      rw [f1, f2, f3, Bool.true_and, Bool.eq_iff_iff]
      simp
    | false =>
      obtain ⟨f1, f2, f3⟩ := f_str hz' hl
      rw [f1, Bool.false_and]
      exact decide_eq_false fun h => by omega
  obtain ⟨e1, e2, e3⟩ := o_no (t := t) (n := n) (s := s) (fun h => absurd h h1) (fun h => absurd h h2) h3
  by_cases h0 : t = 0
  · subst h0
    rw [cOk_0 hz', e1, e2, e3, Bool.eq_iff_iff]
    simp only [decide_eq_true_eq, true_and, Bool.and_eq_true, beq_iff_eq]
    exact ⟨fun ⟨a, b⟩ => ⟨hnil.1 b, a⟩, fun ⟨a, b⟩ => ⟨b, hnil.2 a⟩⟩
  · rw [cOk_no h0 h1 h2 h3, e1]
    exact decide_eq_false fun h => h0 h.1

/-- How two texts are compared. -/
def lsB (a b : ByteArray) : Bool := Op.bytesLess a.toList b.toList
def sameB (a b : ByteArray) : Bool := a.toList == b.toList
def cmpS (a b : ByteArray) : Int := if sameB a b = true then 0 else if lsB a b = true then -1 else 1
theorem bl_self : ∀ l : List UInt8, Op.bytesLess l l = false
  | [] => rfl
  | a :: x => by
    rw [Op.bytesLess, bl_self x]
    simp
theorem bl_total : ∀ x y : List UInt8, x ≠ y → Op.bytesLess x y = !(Op.bytesLess y x)
  | [], [], h => absurd rfl h
  | [], _ :: _, _ => rfl
  | _ :: _, [], _ => rfl
  | a :: x, b :: y, h => by
    rw [Op.bytesLess, Op.bytesLess]
    by_cases e : a = b
    · subst e
      have := bl_total x y (fun g => h (by rw [g]))
      rw [this]; simp
    · have e1 : (a == b) = false := by simpa using e
      have e2 : (b == a) = false := by simpa using fun g => e g.symm
      rw [e1, e2]
      simp only [Bool.false_and, Bool.or_false]
      by_cases g : a < b
      · have g2 : ¬ b < a := UInt8.lt_asymm g
        simp [g, g2]
      · have g2 : b < a := by
          rcases UInt8.lt_or_lt_of_ne e with q | q
          · exact absurd q g
          · exact q
        simp [g, g2]
theorem sameB_iff {a b : ByteArray} : sameB a b = true ↔ a = b := by
  unfold sameB
  rw [beq_iff_eq, ByteArray.toList_eq, ByteArray.toList_eq]
  exact ⟨fun h => by cases a; cases b; simp at h; rw [h], fun h => by rw [h]⟩
theorem sameB_comm (a b : ByteArray) : sameB a b = sameB b a := by
  rw [Bool.eq_iff_iff, sameB_iff, sameB_iff]; exact ⟨Eq.symm, Eq.symm⟩
theorem lsB_same {a b : ByteArray} (h : sameB a b = true) : lsB a b = false := by
  rw [sameB_iff] at h; subst h; exact bl_self _
theorem lsB_flip {a b : ByteArray} (h : sameB a b = false) : lsB a b = !(lsB b a) := by
  unfold lsB
  refine bl_total _ _ fun g => ?_
  unfold sameB at h
  rw [g, BEq.rfl] at h
  cases h
theorem cmpS_flip (a b : ByteArray) : cmpS a b = -cmpS b a := by
  unfold cmpS
  rw [sameB_comm b a]
  cases h : sameB a b with
  | true => rfl
  | false =>
    rw [lsB_flip h]
    cases lsB b a <;> rfl
theorem cmpS_self (a : ByteArray) : cmpS a a = 0 := by
  unfold cmpS; rw [if_pos (sameB_iff.2 rfl)]
theorem cmp3_flip (a b : Int) : cmp3 a b = -cmp3 b a := by
  unfold cmp3
  by_cases h : a < b
  · rw [if_pos h, if_neg (by omega), if_pos h]
  · rw [if_neg h]
    by_cases g : b < a
    · rw [if_pos g, if_pos g]
      rfl
    · rw [if_neg g, if_neg g, if_neg h]; rfl
theorem cmp3_self (a : Int) : cmp3 a a = 0 := by simp [cmp3]
def cCmp (t n : Int) (s : ByteArray) (t' n' : Int) (s' : ByteArray) : Int :=
  if (cOk t n s && cOk t' n' s') = true then (if t = 2 ∨ t' = 2 then cmpS (cTxt t n s) (cTxt t' n' s') else cmp3 n n') else 0
theorem cCmp_flip (t n : Int) (s : ByteArray) (t' n' : Int) (s' : ByteArray) : cCmp t n s t' n' s' = -cCmp t' n' s' t n s := by
  unfold cCmp
  rw [Bool.and_comm]
  split
  · by_cases h : t = 2 ∨ t' = 2
    · rw [if_pos h, if_pos h.symm, cmpS_flip]
    · rw [if_neg h, if_neg (fun g => h g.symm), cmp3_flip]
  · rfl
theorem cCmp_self (t n : Int) (s : ByteArray) : cCmp t n s t n s = 0 := by
  unfold cCmp
  split
  · split
    · exact cmpS_self _
    · exact cmp3_self _
  · rfl
theorem cmpS_bd (a b : ByteArray) : -1 ≤ cmpS a b ∧ cmpS a b ≤ 1 := by unfold cmpS; split <;> (try split) <;> omega
theorem cmp3_bd (a b : Int) : -1 ≤ cmp3 a b ∧ cmp3 a b ≤ 1 := by unfold cmp3; split <;> (try split) <;> omega
theorem cCmp_bd (t n : Int) (s : ByteArray) (t' n' : Int) (s' : ByteArray) : -1 ≤ cCmp t n s t' n' s' ∧ cCmp t n s t' n' s' ≤ 1 := by
  unfold cCmp; split
  · split
    · exact cmpS_bd _ _
    · exact cmp3_bd _ _
  · omega
def cRel (k t n : Int) (s : ByteArray) (t' n' : Int) (s' : ByteArray) : Bool :=
  (cOk t n s && cOk t' n' s') && (if k = 15 then decide (cCmp t n s t' n' s' < 0) else if k = 16 then decide (cCmp t n s t' n' s' ≤ 0) else if k = 17 then cCmp t n s t' n' s' == 0 else if k = 18 then !(cCmp t n s t' n' s' == 0) else false)
theorem rdN_ok (s : ByteArray) : dOk (rdN s) = true := by
  have := rV_bd s
  refine dOk_of ?_
  unfold rdN
  split
  · omega
  · split <;> omega
theorem cNum_ok (t n : Int) (s : ByteArray) : dOk (cNum t n s) = true := by
  unfold cNum numOf
  split
  · rename_i h
    split
    · exact rdN_ok s
    · rename_i h2
      by_cases h0 : t = 0
      · subst h0
        rw [cOk_0 (cOk_size h)] at h
        simp at h
        rw [h.2]; decide
      by_cases h1 : t = 1
      · subst h1
        rw [cOk_1 (cOk_size h)] at h
        simp at h
        exact h.2
      by_cases h3 : t = 3
      · subst h3
        rw [cOk_3 (cOk_size h)] at h
        simp at h
        rw [h.2]; exact rdN_ok s
      · rw [cOk_no h0 h1 h2 h3] at h; cases h
  · decide
/-- What the reckoning of a kind gives, and whether it is a decimal. -/
def arV (k a b : Int) : Int := if k = 20 then addV a b else if k = 21 then subV a b else if k = 22 then mulV a b else if k = 23 then divV a b else modV a b
def arB (k a b : Int) : Bool := if k = 20 then addB a b else if k = 21 then subB a b else if k = 22 then mulB a b else if k = 23 then divB a b else modB a b
theorem arB_zero {k a : Int} (h : 23 ≤ k) : arB k a 0 = false := by
  unfold arB
  rw [if_neg (by omega), if_neg (by omega), if_neg (by omega)]
  split <;> simp [divB, modB]
/-- The code of a reckoning, and its number. -/
def arC (k t n : Int) (s : ByteArray) (t' n' : Int) (s' : ByteArray) : Int :=
  if (decide (20 ≤ k ∧ k ≤ 24) && (cOk t n s && cOk t' n' s')) = false then 3
  else if 23 ≤ k ∧ cNum t' n' s' = 0 then 2
  else if arB k (cNum t n s) (cNum t' n' s') = true then 0 else 1
def arT (k t n : Int) (s : ByteArray) (t' n' : Int) (s' : ByteArray) : Int := if arC k t n s t' n' s' = 0 then 1 else 0
def arN (k t n : Int) (s : ByteArray) (t' n' : Int) (s' : ByteArray) : Int := if arC k t n s t' n' s' = 0 then arV k (cNum t n s) (cNum t' n' s') else 0
theorem cTxt_size {t n : Int} {s : ByteArray} (h : cOk t n s = true) : (cTxt t n s).size ≤ 500 := by
  unfold cTxt
  split
  · unfold dtB; split
    · rename_i h1
      have a := head_size n h1
      have b := fracL_size n
      rw [textB_head, ByteArray.size_append]; omega
    · decide
  · exact cOk_size h
end Go.Proofs.YthaedmldlenhgaaDoor.CellPure
